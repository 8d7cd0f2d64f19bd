/-
  The walk of the law's alive.
-/
import Derived.Test.YtbbgeopgigeioaaGLong
namespace Go.Proofs.Ytbbgeopgigeioaa
open Go.RowKit

def endI : In := ⟨10, 0, 0, 0, 0⟩
def setI : In := ⟨1, 0, 0, 0, 0⟩
def sendI : In := ⟨5, 0, 0, 0, 0⟩
def closeI : In := ⟨7, 0, 0, -1, 0⟩
theorem zero_ok {o : Nat} (h : o < 256) : (⟨o, 0, 0, 0, 0⟩ : In).ok := ⟨h, i64_zero, i64_zero, i64_zero, i64_zero⟩
theorem end_ok : ∀ x ∈ [endI], x.ok := by simp only [List.mem_singleton, forall_eq]; exact zero_ok (by decide)
theorem set_ok : ∀ x ∈ [setI], x.ok := by simp only [List.mem_singleton, forall_eq]; exact zero_ok (by decide)
theorem none_ok : ∀ x ∈ ([] : List In), x.ok := by simp
theorem send_ok : ∀ x ∈ [sendI, endI], x.ok := by
  intro x hx
  simp only [List.mem_cons, List.not_mem_nil, or_false] at hx
  rcases hx with rfl | rfl
  · exact zero_ok (by decide)
  · exact zero_ok (by decide)
theorem two_ok : ∀ x ∈ [setI, endI], x.ok := by
  intro x hx
  simp only [List.mem_cons, List.not_mem_nil, or_false] at hx
  rcases hx with rfl | rfl
  · exact zero_ok (by decide)
  · exact zero_ok (by decide)
theorem close_ok : ∀ x ∈ [closeI], x.ok := by simp only [List.mem_singleton, forall_eq]; exact ⟨by decide, i64_zero, i64_zero, ⟨by decide, by decide⟩, i64_zero⟩
theorem small_one {xs : List In} (h : xs.length ≤ 2) : Small (one xs) := ⟨by simp [one], by simp [one], by simp [one], by simp [one]; omega, by simp [one]⟩
theorem t_end : checkT (one [endI]) = (0, 0, 0) := by decide
theorem t_set : checkT (one [setI]) = (0, 0, 113) := by decide
theorem t_none : checkT (one []) = (0, 0, 112) := by decide
theorem t_send : checkT (one [sendI, endI]) = (0, 0, 112) := by decide
theorem at_two : atIn (one [setI, endI]) 0 1 = some endI := by rfl

/-- The four pieces of a program, where the code is the row g. -/
abbrev prgV (g : Nat) : Value := .agg #[.slice none 0 0, .slice (some ⟨g, 0, none⟩) 1 1, .slice none 0 0]
theorem check_one {xs : List In} {g B : Nat} (w : World) (h : Is w g B xs) (hx : ∀ x ∈ xs, x.ok) (hl : xs.length ≤ 2) {a b c : Int} (ht : checkT (one xs) = (a, b, c)) :
    Calls Try.prog 8 #[.agg #[.slice none 0 0, .slice (some ⟨g, 0, none⟩) 1 1, .slice none 0 0]] w fun e w' => e = .returned (.tuple #[.int .i64 a, .int .i64 b, .int .i64 c]) ∧ Below w.heap.size w w' := by
  have := progCheck_any w (h.at hx) (small_one hl)
  rw [ht] at this
  exact this
theorem code_nil (w : World) :
    Calls Try.prog 14 #[.slice none 0 0] w fun e w' => ∃ g, e = .returned (.agg #[.slice none 0 0, .slice (some ⟨g, 0, none⟩) 1 1, .slice none 0 0]) ∧
      PrgAt 0 w'.heap.size w' (.slice none 0 0) (.slice (some ⟨g, 0, none⟩) 1 1) (.slice none 0 0) (one []) ∧ Below w.heap.size w w' := by
  go_enter Try.func14, Try.ntmps14
  go_wp2_with fail
  have h0 := blk_new (w.alloc (.cells #[.slice none 0 0, .slice (some ⟨w.heap.size + 1, 0, none⟩) 1 1, .slice none 0 0] 26)) 32 #[.slice none 0 0]
  rw [World.size_alloc] at h0
  have h1 := (blk_new w 26 #[.slice none 0 0, .slice (some ⟨w.heap.size + 1, 0, none⟩) 1 1, .slice none 0 0]).alloc (.cells #[.slice none 0 0] 32)
  have q0 : ((w.alloc (.cells #[.slice none 0 0, .slice (some ⟨w.heap.size + 1, 0, none⟩) 1 1, .slice none 0 0] 26)).alloc (.cells #[.slice none 0 0] 32)).cell? ⟨w.heap.size, 0, none⟩ = some (.slice none 0 0) := h1.cell rfl
  have q1 : ((w.alloc (.cells #[.slice none 0 0, .slice (some ⟨w.heap.size + 1, 0, none⟩) 1 1, .slice none 0 0] 26)).alloc (.cells #[.slice none 0 0] 32)).cell? ⟨w.heap.size, 1, none⟩ = some (.slice (some ⟨w.heap.size + 1, 0, none⟩) 1 1) := h1.cell rfl
  have q2 : ((w.alloc (.cells #[.slice none 0 0, .slice (some ⟨w.heap.size + 1, 0, none⟩) 1 1, .slice none 0 0] 26)).alloc (.cells #[.slice none 0 0] 32)).cell? ⟨w.heap.size, 2, none⟩ = some (.slice none 0 0) := h1.cell rfl
  refine bodyPost_ret (v := .agg #[.slice none 0 0, .slice (some ⟨w.heap.size + 1, 0, none⟩) 1 1, .slice none 0 0]) (by simp [results, Try.f14, go_sem, q0, q1, q2]) rfl ?_
  refine ⟨_, rfl, ⟨Nat.le_refl _, ⟨⟨rfl, none, 0, rfl, .inl rfl⟩, by simp [one]⟩, ⟨[.slice none 0 0], ⟨rfl, _, 1, rfl, .inr ⟨_, 0, rfl, Nat.zero_le _, h0.lt, blk_cells h0⟩⟩, ?_⟩, ⟨[], rfl, ⟨rfl, none, 0, rfl, .inl rfl⟩, by simp⟩⟩, below2 w _ _⟩
  intro k u c hu hc
  have hk : k = 0 := by have := (List.getElem?_eq_some_iff.1 hu).1; simpa using this
  subst hk
  simp only [List.getElem?_cons_zero, Option.some.injEq] at hu
  simp only [one, List.getElem?_cons_zero, Option.some.injEq] at hc
  subst hu hc
  exact ⟨⟨rfl, none, 0, rfl, .inl rfl⟩, by simp⟩
/-- The two instructions that alive keeps. -/
structure Bx (W : World) (E : Nat) : Prop where
  a : Blk W E 34 #[.int .u8 10, .int .i64 0, .int .i64 0, .int .i64 0, .int .i64 0]
  b : Blk W (E + 1) 34 #[.int .u8 1, .int .i64 0, .int .i64 0, .int .i64 0, .int .i64 0]
theorem Bx.later {W W' : World} {E : Nat} (h : Bx W E) (hb : Below W.heap.size W W') : Bx W' E := ⟨h.a.later hb h.a.lt, h.b.later hb h.b.lt⟩

theorem takeD {P : Program} {md : Region.Mode} {ops : Array Oper} {Q : Exit → Act → World → Prop} {S : World → Prop} {i : Nat} {d : Option Tmp} {v : Value} {fuel : Nat} {listed : Array Bool} {a : Act} {w : World} (hd : (ops[i]?).map Oper.dst = some d)
    (hs : Region.noSelect ops = true) (hf : Region.free md ops listed i = true) (hr : (Region.ready md ops listed).contains i = true)
    (hQ : ∀ c a w, Q (.panic c) (a.put d v) w → Q (.panic c) a w) (hy : ∀ oi, ops[i]? = some oi → YieldsIf P ops S oi v a) (hS : S w)
    (h : wpAnyH P md ops Q S fuel (listed.setIfInBounds i true) (a.put d v) w) : wpAnyH P md ops Q S (fuel + 1) listed a w := by
  cases ho : ops[i]? with
  | none => rw [ho] at hd; cases hd
  | some oi =>
    rw [ho] at hd
    simp only [Option.map_some, Option.some.injEq] at hd
    subst hd
    exact wpAnyH_take ho hs hf hr hQ (hy oi ho) hS h
theorem wpAnyH_cut {P : Program} {md : Region.Mode} {ops : Array Oper} {Q : Exit → Act → World → Prop} {S : World → Prop} {f f' : Nat} {l l' : Array Bool} {a0 : Act} {w0 : World} (Rel : Act → Act → World → Prop)
    (h1 : ∀ a w, Rel a0 a w → wpAnyH P md ops Q S f' l' a w) (h2 : (∀ a w, Rel a0 a w → wpAnyH P md ops Q S f' l' a w) → wpAnyH P md ops Q S f l a0 w0) : wpAnyH P md ops Q S f l a0 w0 := h2 h1
theorem bA {wf W : World} (h : Below wf.heap.size wf W) (o : Obj) : Below wf.heap.size wf (W.alloc o) := h.alloc h.size o
theorem blk_at {W : World} {t : TypeId} {cs : Array Value} {n : Nat} (hn : n = W.heap.size) : Blk (W.alloc (.cells cs t)) n t cs := by subst hn; exact blk_new W t cs
theorem Blk.on {W W' : World} {B : Nat} {t : TypeId} {cs : Array Value} (h : Blk W B t cs) (hb : Below W.heap.size W W') : Blk W' B t cs := h.later hb h.lt
theorem Is.on {W W' : World} {g B : Nat} {xs : List In} (h : Is W g B xs) (hb : Below W.heap.size W W') : Is W' g B xs := h.later hb (Nat.le_refl _)
theorem fit_one {xs : List In} (h : ∀ x ∈ xs, x.ok) : Fit (one xs) := ⟨by simp [one], by simpa [one] using h, by simp [one]⟩
theorem same_end {lo hi : Nat} {u1 u2 u3 : Value} {g B : Nat} (w : World) (h : Is w g B [endI]) (h2 : PrgAt lo hi w u1 u2 u3 (one [endI])) :
    Calls Try.prog 12 #[.agg #[.slice none 0 0, .slice (some ⟨g, 0, none⟩) 1 1, .slice none 0 0], .agg #[u1, u2, u3]] w fun e w' => e = .returned (.bool true) ∧ Below w.heap.size w w' := by
  have := same_any w (h.at end_ok) h2 (small_one (by decide))
  rw [samePrg_refl] at this
  exact this
theorem same_not {g B g' B' : Nat} (w : World) (h : Is w g B [endI]) (h2 : Is w g' B' [setI]) :
    Calls Try.prog 12 #[.agg #[.slice none 0 0, .slice (some ⟨g, 0, none⟩) 1 1, .slice none 0 0], .agg #[.slice none 0 0, .slice (some ⟨g', 0, none⟩) 1 1, .slice none 0 0]] w fun e w' => e = .returned (.bool false) ∧ Below w.heap.size w w' := by
  have := same_any w (h.at end_ok) (h2.at set_ok) (small_one (by decide))
  rw [show samePrg (one [endI]) (one [setI]) = false by decide] at this
  exact this

set_option linter.unusedSimpArgs false in
set_option maxRecDepth 100000 in
set_option maxHeartbeats 6400000 in
theorem alive_any (w : World) :
    Calls Try.prog 7 #[] w fun e w' => e = .returned (.bool true) ∧ Below w.heap.size w w' := by
  obtain ⟨w0, hw0⟩ : ∃ w0, w0 = (w.alloc (.cells #[.int .u8 10, .int .i64 0, .int .i64 0, .int .i64 0, .int .i64 0] 34)).alloc (.cells #[.int .u8 1, .int .i64 0, .int .i64 0, .int .i64 0, .int .i64 0] 34) := ⟨_, rfl⟩
  have B0 : Below w.heap.size w w0 := by rw [hw0]; exact below2 w _ _
  have z0 : w0.heap.size = w.heap.size + 1 + 1 := by rw [hw0, World.size_alloc, World.size_alloc]
  have X0 : Bx w0 w.heap.size := by
    rw [hw0]
    refine ⟨(blk_new w _ _).alloc _, ?_⟩
    have := blk_new (w.alloc (.cells #[.int .u8 10, .int .i64 0, .int .i64 0, .int .i64 0, .int .i64 0] 34)) 34 #[.int .u8 1, .int .i64 0, .int .i64 0, .int .i64 0, .int .i64 0]
    rwa [World.size_alloc] at this
  have hc1 := code_any [endI] w0.heap.size (w0.alloc (.cells #[.int .u8 10, .int .i64 0, .int .i64 0, .int .i64 0, .int .i64 0] 34)) (blk_new w0 _ _)
  have b1 : Below w0.heap.size w0 (w0.alloc (.cells #[.int .u8 10, .int .i64 0, .int .i64 0, .int .i64 0, .int .i64 0] 34)) := (Below.refl _ w0).alloc (Nat.le_refl _) _
  go_enter Try.func7, Try.ntmps7
  go_wp2_with fail
  rw [← hw0, ← z0]
  refine hc1.mono ?_
  rintro e w1 ⟨g1, rfl, I1, hb1⟩
  have b1' := b1.trans (hb1.mono b1.size)
  have hk1 := check_one w1 I1 end_ok (by decide) t_end
  clear hw0 hc1 b1 hb1
  go_wp2_with fail
  refine hk1.mono ?_
  rintro e w2 ⟨rfl, hb2⟩
  have b2 := below_next b1' hb2 (Nat.le_refl _)
  have B2 := below_next B0 b2 (Nat.le_refl _)
  have X2 := X0.later b2
  clear hk1 I1 b1' hb2 b2
  have s0 : w2.cell? ⟨w.heap.size + 1, 0, none⟩ = some (.int .u8 1) := X2.b.cell rfl
  have s1 : w2.cell? ⟨w.heap.size + 1, 1, none⟩ = some (.int .i64 0) := X2.b.cell rfl
  have s2 : w2.cell? ⟨w.heap.size + 1, 2, none⟩ = some (.int .i64 0) := X2.b.cell rfl
  have s3 : w2.cell? ⟨w.heap.size + 1, 3, none⟩ = some (.int .i64 0) := X2.b.cell rfl
  have s4 : w2.cell? ⟨w.heap.size + 1, 4, none⟩ = some (.int .i64 0) := X2.b.cell rfl
  have hc := code_any [setI] w2.heap.size (w2.alloc (.cells #[.int .u8 1, .int .i64 0, .int .i64 0, .int .i64 0, .int .i64 0] 34)) (blk_new w2 _ _)
  have ba : Below w2.heap.size w2 (w2.alloc (.cells #[.int .u8 1, .int .i64 0, .int .i64 0, .int .i64 0, .int .i64 0] 34)) := (Below.refl _ w2).alloc (Nat.le_refl _) _
  have hl1 := X2.a.lt
  have hl2 := X2.b.lt
  go_wp2_with fail
  refine hc.mono ?_
  rintro e u3 ⟨g, rfl, I, hb⟩
  have bb := ba.trans (hb.mono ba.size)
  clear hc ba hb hl1 hl2
  clear s0 s1 s2 s3 s4
  have hk := check_one u3 I set_ok (by decide) t_set
  clear I
  go_wp2_with fail
  refine hk.mono ?_
  rintro e w3 ⟨rfl, hb⟩
  have bc := below_next bb hb (Nat.le_refl _)
  clear hk
  have B3 := below_next B2 bc (Nat.le_refl _)
  have X3 := X2.later bc
  clear bb bc hb X2 B2
  have hc := code_nil w3
  go_wp2_with fail
  refine hc.mono ?_
  rintro e u4 ⟨g, rfl, I, bb⟩
  have hk : Calls Try.prog 8 #[.agg #[.slice none 0 0, .slice (some ⟨g, 0, none⟩) 1 1, .slice none 0 0]] u4 fun e w' => e = .returned (.tuple #[.int .i64 0, .int .i64 0, .int .i64 112]) ∧ Below u4.heap.size u4 w' := by
    have := progCheck_any u4 I (small_one (by decide))
    rw [t_none] at this
    exact this
  clear hc I
  go_wp2_with fail
  refine hk.mono ?_
  rintro e w4 ⟨rfl, hb⟩
  have bc := below_next bb hb (Nat.le_refl _)
  clear hk
  have B4 := below_next B3 bc (Nat.le_refl _)
  have X4 := X3.later bc
  clear bb bc hb X3 B3
  have e0 : w4.cell? ⟨w.heap.size, 0, none⟩ = some (.int .u8 10) := X4.a.cell rfl
  have e1 : w4.cell? ⟨w.heap.size, 1, none⟩ = some (.int .i64 0) := X4.a.cell rfl
  have e2 : w4.cell? ⟨w.heap.size, 2, none⟩ = some (.int .i64 0) := X4.a.cell rfl
  have e3 : w4.cell? ⟨w.heap.size, 3, none⟩ = some (.int .i64 0) := X4.a.cell rfl
  have e4 : w4.cell? ⟨w.heap.size, 4, none⟩ = some (.int .i64 0) := X4.a.cell rfl
  have hc := code_any [sendI, endI] w4.heap.size (w4.alloc (.cells #[.int .u8 5, .int .i64 0, .int .i64 0, .int .i64 0, .int .i64 0, .int .u8 10, .int .i64 0, .int .i64 0, .int .i64 0, .int .i64 0] 34)) (blk_new w4 _ _)
  have ba : Below w4.heap.size w4 (w4.alloc (.cells #[.int .u8 5, .int .i64 0, .int .i64 0, .int .i64 0, .int .i64 0, .int .u8 10, .int .i64 0, .int .i64 0, .int .i64 0, .int .i64 0] 34)) := (Below.refl _ w4).alloc (Nat.le_refl _) _
  have hl1 := X4.a.lt
  have hl2 := X4.b.lt
  go_wp2_with fail
  refine hc.mono ?_
  rintro e u5 ⟨g, rfl, I, hb⟩
  have bb := ba.trans (hb.mono ba.size)
  clear hc ba hb hl1 hl2
  clear e0 e1 e2 e3 e4
  have hk := check_one u5 I send_ok (by decide) t_send
  clear I
  go_wp2_with fail
  refine hk.mono ?_
  rintro e w5 ⟨rfl, hb⟩
  have bc := below_next bb hb (Nat.le_refl _)
  clear hk
  have B5 := below_next B4 bc (Nat.le_refl _)
  have X5 := X4.later bc
  clear bb bc hb X4 B4
  have e0 : w5.cell? ⟨w.heap.size, 0, none⟩ = some (.int .u8 10) := X5.a.cell rfl
  have e1 : w5.cell? ⟨w.heap.size, 1, none⟩ = some (.int .i64 0) := X5.a.cell rfl
  have e2 : w5.cell? ⟨w.heap.size, 2, none⟩ = some (.int .i64 0) := X5.a.cell rfl
  have e3 : w5.cell? ⟨w.heap.size, 3, none⟩ = some (.int .i64 0) := X5.a.cell rfl
  have e4 : w5.cell? ⟨w.heap.size, 4, none⟩ = some (.int .i64 0) := X5.a.cell rfl
  have s0 : w5.cell? ⟨w.heap.size + 1, 0, none⟩ = some (.int .u8 1) := X5.b.cell rfl
  have s1 : w5.cell? ⟨w.heap.size + 1, 1, none⟩ = some (.int .i64 0) := X5.b.cell rfl
  have s2 : w5.cell? ⟨w.heap.size + 1, 2, none⟩ = some (.int .i64 0) := X5.b.cell rfl
  have s3 : w5.cell? ⟨w.heap.size + 1, 3, none⟩ = some (.int .i64 0) := X5.b.cell rfl
  have s4 : w5.cell? ⟨w.heap.size + 1, 4, none⟩ = some (.int .i64 0) := X5.b.cell rfl
  have hc := code_any [setI, endI] w5.heap.size (w5.alloc (.cells #[.int .u8 1, .int .i64 0, .int .i64 0, .int .i64 0, .int .i64 0, .int .u8 10, .int .i64 0, .int .i64 0, .int .i64 0, .int .i64 0] 34)) (blk_new w5 _ _)
  have ba : Below w5.heap.size w5 (w5.alloc (.cells #[.int .u8 1, .int .i64 0, .int .i64 0, .int .i64 0, .int .i64 0, .int .u8 10, .int .i64 0, .int .i64 0, .int .i64 0, .int .i64 0] 34)) := (Below.refl _ w5).alloc (Nat.le_refl _) _
  have hl1 := X5.a.lt
  have hl2 := X5.b.lt
  go_wp2_with fail
  refine hc.mono ?_
  rintro e u6 ⟨g, rfl, I, hb⟩
  have bb := ba.trans (hb.mono ba.size)
  clear hc ba hb hl1 hl2
  clear e0 e1 e2 e3 e4 s0 s1 s2 s3 s4
  have hk : Calls Try.prog 9 #[.agg #[.slice none 0 0, .slice (some ⟨g, 0, none⟩) 1 1, .slice none 0 0], .int .i64 0, .int .i64 1] u6 fun e w' => e = .returned (.tuple #[.agg #[.int .u8 10, .int .i64 0, .int .i64 0, .int .i64 0, .int .i64 0], .bool true]) ∧ Below u6.heap.size u6 w' := by
    have := at_any u6 (I.at two_ok) (small_one (by decide)) 0 1
    rw [at_two] at this
    exact this
  clear I
  go_wp2_with fail
  refine hk.mono ?_
  rintro e w6 ⟨rfl, hb⟩
  have bc := below_next bb hb (Nat.le_refl _)
  clear hk
  have B6 := below_next B5 bc (Nat.le_refl _)
  have X6 := X5.later bc
  clear bb bc hb X5 B5
  obtain ⟨wf, hwf⟩ : ∃ wf, wf = w6.alloc (.cells #[.int .u8 10, .int .i64 0, .int .i64 0, .int .i64 0, .int .i64 0] 34) := ⟨_, rfl⟩
  have bf : Below w6.heap.size w6 wf := by rw [hwf]; exact (Below.refl _ w6).alloc (Nat.le_refl _) _
  have Bf := below_next B6 bf (Nat.le_refl _)
  have Xf := X6.later bf
  have Yf : Blk wf w6.heap.size 34 #[.int .u8 10, .int .i64 0, .int .i64 0, .int .i64 0, .int .i64 0] := by rw [hwf]; exact blk_new w6 _ _
  go_wp2_with fail
  rw [← hwf]
  obtain ⟨Y, hY⟩ : ∃ Y, Y = w6.heap.size := ⟨_, rfl⟩
  rw [← hY] at Yf ⊢
  clear hwf bf hY X6 B6
  have hS : ∀ w', Below wf.heap.size wf w' → w'.cell? ⟨w.heap.size, 0, none⟩ = some (.int .u8 10) ∧ w'.cell? ⟨w.heap.size, 1, none⟩ = some (.int .i64 0) ∧ w'.cell? ⟨w.heap.size, 2, none⟩ = some (.int .i64 0) ∧ w'.cell? ⟨w.heap.size, 3, none⟩ = some (.int .i64 0) ∧ w'.cell? ⟨w.heap.size, 4, none⟩ = some (.int .i64 0) ∧ w'.cell? ⟨w.heap.size + 1, 0, none⟩ = some (.int .u8 1) ∧ w'.cell? ⟨w.heap.size + 1, 1, none⟩ = some (.int .i64 0) ∧ w'.cell? ⟨w.heap.size + 1, 2, none⟩ = some (.int .i64 0) ∧ w'.cell? ⟨w.heap.size + 1, 3, none⟩ = some (.int .i64 0) ∧ w'.cell? ⟨w.heap.size + 1, 4, none⟩ = some (.int .i64 0) ∧ w'.cell? ⟨Y, 0, none⟩ = some (.int .u8 10) ∧ w'.cell? ⟨Y, 1, none⟩ = some (.int .i64 0) ∧ w'.cell? ⟨Y, 2, none⟩ = some (.int .i64 0) ∧ w'.cell? ⟨Y, 3, none⟩ = some (.int .i64 0) ∧ w'.cell? ⟨Y, 4, none⟩ = some (.int .i64 0) := fun w' hb => by
    have x := Xf.a.later hb Xf.a.lt
    have y := Xf.b.later hb Xf.b.lt
    have z := Yf.later hb Yf.lt
    exact ⟨x.cell rfl, x.cell rfl, x.cell rfl, x.cell rfl, x.cell rfl, y.cell rfl, y.cell rfl, y.cell rfl, y.cell rfl, y.cell rfl, z.cell rfl, z.cell rfl, z.cell rfl, z.cell rfl, z.cell rfl⟩
  have hD0 : Below wf.heap.size wf wf.drew := (Below.refl _ wf).drew
  clear Xf Yf X0 z0 B0
  refine wp_region_pan (R := fun _ _ => False) (fun _ _ _ _ h => h.elim) ?_
  refine wp_region_held_drew (S := fun w' => w'.cell? ⟨w.heap.size, 0, none⟩ = some (.int .u8 10) ∧ w'.cell? ⟨w.heap.size, 1, none⟩ = some (.int .i64 0) ∧ w'.cell? ⟨w.heap.size, 2, none⟩ = some (.int .i64 0) ∧ w'.cell? ⟨w.heap.size, 3, none⟩ = some (.int .i64 0) ∧ w'.cell? ⟨w.heap.size, 4, none⟩ = some (.int .i64 0) ∧ w'.cell? ⟨w.heap.size + 1, 0, none⟩ = some (.int .u8 1) ∧ w'.cell? ⟨w.heap.size + 1, 1, none⟩ = some (.int .i64 0) ∧ w'.cell? ⟨w.heap.size + 1, 2, none⟩ = some (.int .i64 0) ∧ w'.cell? ⟨w.heap.size + 1, 3, none⟩ = some (.int .i64 0) ∧ w'.cell? ⟨w.heap.size + 1, 4, none⟩ = some (.int .i64 0) ∧ w'.cell? ⟨Y, 0, none⟩ = some (.int .u8 10) ∧ w'.cell? ⟨Y, 1, none⟩ = some (.int .i64 0) ∧ w'.cell? ⟨Y, 2, none⟩ = some (.int .i64 0) ∧ w'.cell? ⟨Y, 3, none⟩ = some (.int .i64 0) ∧ w'.cell? ⟨Y, 4, none⟩ = some (.int .i64 0)) (by kernel_rfl) (hS _ hD0) (fun hHeld => ?_)
  generalize wf.drew = wd at hD0 hHeld ⊢
  refine takeD (i := 0) (d := some 58) (v := .int .i64 0) (by kernel_rfl) (by kernel_rfl) (by kernel_rfl) (by kernel_rfl) (fun _ _ _ h => h) (fun oi h => ?_) hHeld ?_
  · simp only [List.getElem?_toArray, List.getElem?_cons_succ, List.getElem?_cons_zero, Option.some.injEq] at h
    subst h
    refine Or.inl ⟨by rfl, fun w' hSw => ?_⟩
    obtain ⟨x0, x1, x2, x3, x4, x5, x6, x7, x8, x9, x10, x11, x12, x13, x14⟩ := hSw
    go_simp
  try simp only [Act.put, List.setIfInBounds_toArray, List.set_cons_zero, List.set_cons_succ]
  refine takeD (i := 1) (d := some 59) (v := .bool true) (by kernel_rfl) (by kernel_rfl) (by kernel_rfl) (by kernel_rfl) (fun _ _ _ h => h) (fun oi h => ?_) hHeld ?_
  · simp only [List.getElem?_toArray, List.getElem?_cons_succ, List.getElem?_cons_zero, Option.some.injEq] at h
    subst h
    refine Or.inl ⟨by rfl, fun w' hSw => ?_⟩
    obtain ⟨x0, x1, x2, x3, x4, x5, x6, x7, x8, x9, x10, x11, x12, x13, x14⟩ := hSw
    go_simp
  try simp only [Act.put, List.setIfInBounds_toArray, List.set_cons_zero, List.set_cons_succ]
  refine takeD (i := 2) (d := some 60) (v := .bool true) (by kernel_rfl) (by kernel_rfl) (by kernel_rfl) (by kernel_rfl) (fun _ _ _ h => h) (fun oi h => ?_) hHeld ?_
  · simp only [List.getElem?_toArray, List.getElem?_cons_succ, List.getElem?_cons_zero, Option.some.injEq] at h
    subst h
    refine Or.inl ⟨by rfl, fun w' hSw => ?_⟩
    obtain ⟨x0, x1, x2, x3, x4, x5, x6, x7, x8, x9, x10, x11, x12, x13, x14⟩ := hSw
    go_simp
  try simp only [Act.put, List.setIfInBounds_toArray, List.set_cons_zero, List.set_cons_succ]
  refine takeD (i := 3) (d := some 61) (v := .int .i64 0) (by kernel_rfl) (by kernel_rfl) (by kernel_rfl) (by kernel_rfl) (fun _ _ _ h => h) (fun oi h => ?_) hHeld ?_
  · simp only [List.getElem?_toArray, List.getElem?_cons_succ, List.getElem?_cons_zero, Option.some.injEq] at h
    subst h
    refine Or.inl ⟨by rfl, fun w' hSw => ?_⟩
    obtain ⟨x0, x1, x2, x3, x4, x5, x6, x7, x8, x9, x10, x11, x12, x13, x14⟩ := hSw
    go_simp
  try simp only [Act.put, List.setIfInBounds_toArray, List.set_cons_zero, List.set_cons_succ]
  refine takeD (i := 4) (d := some 62) (v := .bool true) (by kernel_rfl) (by kernel_rfl) (by kernel_rfl) (by kernel_rfl) (fun _ _ _ h => h) (fun oi h => ?_) hHeld ?_
  · simp only [List.getElem?_toArray, List.getElem?_cons_succ, List.getElem?_cons_zero, Option.some.injEq] at h
    subst h
    refine Or.inl ⟨by rfl, fun w' hSw => ?_⟩
    obtain ⟨x0, x1, x2, x3, x4, x5, x6, x7, x8, x9, x10, x11, x12, x13, x14⟩ := hSw
    go_simp
  try simp only [Act.put, List.setIfInBounds_toArray, List.set_cons_zero, List.set_cons_succ]
  refine takeD (i := 5) (d := some 63) (v := .bool true) (by kernel_rfl) (by kernel_rfl) (by kernel_rfl) (by kernel_rfl) (fun _ _ _ h => h) (fun oi h => ?_) hHeld ?_
  · simp only [List.getElem?_toArray, List.getElem?_cons_succ, List.getElem?_cons_zero, Option.some.injEq] at h
    subst h
    refine Or.inl ⟨by rfl, fun w' hSw => ?_⟩
    obtain ⟨x0, x1, x2, x3, x4, x5, x6, x7, x8, x9, x10, x11, x12, x13, x14⟩ := hSw
    go_simp
  try simp only [Act.put, List.setIfInBounds_toArray, List.set_cons_zero, List.set_cons_succ]
  refine takeD (i := 6) (d := some 64) (v := .bool true) (by kernel_rfl) (by kernel_rfl) (by kernel_rfl) (by kernel_rfl) (fun _ _ _ h => h) (fun oi h => ?_) hHeld ?_
  · simp only [List.getElem?_toArray, List.getElem?_cons_succ, List.getElem?_cons_zero, Option.some.injEq] at h
    subst h
    refine Or.inl ⟨by rfl, fun w' hSw => ?_⟩
    obtain ⟨x0, x1, x2, x3, x4, x5, x6, x7, x8, x9, x10, x11, x12, x13, x14⟩ := hSw
    go_simp
  try simp only [Act.put, List.setIfInBounds_toArray, List.set_cons_zero, List.set_cons_succ]
  refine takeD (i := 7) (d := some 65) (v := .int .i64 113) (by kernel_rfl) (by kernel_rfl) (by kernel_rfl) (by kernel_rfl) (fun _ _ _ h => h) (fun oi h => ?_) hHeld ?_
  · simp only [List.getElem?_toArray, List.getElem?_cons_succ, List.getElem?_cons_zero, Option.some.injEq] at h
    subst h
    refine Or.inl ⟨by rfl, fun w' hSw => ?_⟩
    obtain ⟨x0, x1, x2, x3, x4, x5, x6, x7, x8, x9, x10, x11, x12, x13, x14⟩ := hSw
    go_simp
  try simp only [Act.put, List.setIfInBounds_toArray, List.set_cons_zero, List.set_cons_succ]
  refine takeD (i := 8) (d := some 66) (v := .bool true) (by kernel_rfl) (by kernel_rfl) (by kernel_rfl) (by kernel_rfl) (fun _ _ _ h => h) (fun oi h => ?_) hHeld ?_
  · simp only [List.getElem?_toArray, List.getElem?_cons_succ, List.getElem?_cons_zero, Option.some.injEq] at h
    subst h
    refine Or.inl ⟨by rfl, fun w' hSw => ?_⟩
    obtain ⟨x0, x1, x2, x3, x4, x5, x6, x7, x8, x9, x10, x11, x12, x13, x14⟩ := hSw
    go_simp
  try simp only [Act.put, List.setIfInBounds_toArray, List.set_cons_zero, List.set_cons_succ]
  refine takeD (i := 9) (d := some 67) (v := .bool true) (by kernel_rfl) (by kernel_rfl) (by kernel_rfl) (by kernel_rfl) (fun _ _ _ h => h) (fun oi h => ?_) hHeld ?_
  · simp only [List.getElem?_toArray, List.getElem?_cons_succ, List.getElem?_cons_zero, Option.some.injEq] at h
    subst h
    refine Or.inl ⟨by rfl, fun w' hSw => ?_⟩
    obtain ⟨x0, x1, x2, x3, x4, x5, x6, x7, x8, x9, x10, x11, x12, x13, x14⟩ := hSw
    go_simp
  try simp only [Act.put, List.setIfInBounds_toArray, List.set_cons_zero, List.set_cons_succ]
  refine takeD (i := 10) (d := some 68) (v := .bool true) (by kernel_rfl) (by kernel_rfl) (by kernel_rfl) (by kernel_rfl) (fun _ _ _ h => h) (fun oi h => ?_) hHeld ?_
  · simp only [List.getElem?_toArray, List.getElem?_cons_succ, List.getElem?_cons_zero, Option.some.injEq] at h
    subst h
    refine Or.inl ⟨by rfl, fun w' hSw => ?_⟩
    obtain ⟨x0, x1, x2, x3, x4, x5, x6, x7, x8, x9, x10, x11, x12, x13, x14⟩ := hSw
    go_simp
  try simp only [Act.put, List.setIfInBounds_toArray, List.set_cons_zero, List.set_cons_succ]
  refine takeD (i := 11) (d := some 69) (v := .int .i64 112) (by kernel_rfl) (by kernel_rfl) (by kernel_rfl) (by kernel_rfl) (fun _ _ _ h => h) (fun oi h => ?_) hHeld ?_
  · simp only [List.getElem?_toArray, List.getElem?_cons_succ, List.getElem?_cons_zero, Option.some.injEq] at h
    subst h
    refine Or.inl ⟨by rfl, fun w' hSw => ?_⟩
    obtain ⟨x0, x1, x2, x3, x4, x5, x6, x7, x8, x9, x10, x11, x12, x13, x14⟩ := hSw
    go_simp
  try simp only [Act.put, List.setIfInBounds_toArray, List.set_cons_zero, List.set_cons_succ]
  refine takeD (i := 12) (d := some 70) (v := .bool true) (by kernel_rfl) (by kernel_rfl) (by kernel_rfl) (by kernel_rfl) (fun _ _ _ h => h) (fun oi h => ?_) hHeld ?_
  · simp only [List.getElem?_toArray, List.getElem?_cons_succ, List.getElem?_cons_zero, Option.some.injEq] at h
    subst h
    refine Or.inl ⟨by rfl, fun w' hSw => ?_⟩
    obtain ⟨x0, x1, x2, x3, x4, x5, x6, x7, x8, x9, x10, x11, x12, x13, x14⟩ := hSw
    go_simp
  try simp only [Act.put, List.setIfInBounds_toArray, List.set_cons_zero, List.set_cons_succ]
  refine takeD (i := 13) (d := some 71) (v := .bool true) (by kernel_rfl) (by kernel_rfl) (by kernel_rfl) (by kernel_rfl) (fun _ _ _ h => h) (fun oi h => ?_) hHeld ?_
  · simp only [List.getElem?_toArray, List.getElem?_cons_succ, List.getElem?_cons_zero, Option.some.injEq] at h
    subst h
    refine Or.inl ⟨by rfl, fun w' hSw => ?_⟩
    obtain ⟨x0, x1, x2, x3, x4, x5, x6, x7, x8, x9, x10, x11, x12, x13, x14⟩ := hSw
    go_simp
  try simp only [Act.put, List.setIfInBounds_toArray, List.set_cons_zero, List.set_cons_succ]
  refine takeD (i := 14) (d := some 72) (v := .bool true) (by kernel_rfl) (by kernel_rfl) (by kernel_rfl) (by kernel_rfl) (fun _ _ _ h => h) (fun oi h => ?_) hHeld ?_
  · simp only [List.getElem?_toArray, List.getElem?_cons_succ, List.getElem?_cons_zero, Option.some.injEq] at h
    subst h
    refine Or.inl ⟨by rfl, fun w' hSw => ?_⟩
    obtain ⟨x0, x1, x2, x3, x4, x5, x6, x7, x8, x9, x10, x11, x12, x13, x14⟩ := hSw
    go_simp
  try simp only [Act.put, List.setIfInBounds_toArray, List.set_cons_zero, List.set_cons_succ]
  refine takeD (i := 15) (d := some 73) (v := .int .i64 0) (by kernel_rfl) (by kernel_rfl) (by kernel_rfl) (by kernel_rfl) (fun _ _ _ h => h) (fun oi h => ?_) hHeld ?_
  · simp only [List.getElem?_toArray, List.getElem?_cons_succ, List.getElem?_cons_zero, Option.some.injEq] at h
    subst h
    refine Or.inl ⟨by rfl, fun w' hSw => ?_⟩
    obtain ⟨x0, x1, x2, x3, x4, x5, x6, x7, x8, x9, x10, x11, x12, x13, x14⟩ := hSw
    go_simp
  try simp only [Act.put, List.setIfInBounds_toArray, List.set_cons_zero, List.set_cons_succ]
  refine takeD (i := 16) (d := some 74) (v := .bool true) (by kernel_rfl) (by kernel_rfl) (by kernel_rfl) (by kernel_rfl) (fun _ _ _ h => h) (fun oi h => ?_) hHeld ?_
  · simp only [List.getElem?_toArray, List.getElem?_cons_succ, List.getElem?_cons_zero, Option.some.injEq] at h
    subst h
    refine Or.inl ⟨by rfl, fun w' hSw => ?_⟩
    obtain ⟨x0, x1, x2, x3, x4, x5, x6, x7, x8, x9, x10, x11, x12, x13, x14⟩ := hSw
    go_simp
  try simp only [Act.put, List.setIfInBounds_toArray, List.set_cons_zero, List.set_cons_succ]
  refine takeD (i := 17) (d := some 75) (v := .bool true) (by kernel_rfl) (by kernel_rfl) (by kernel_rfl) (by kernel_rfl) (fun _ _ _ h => h) (fun oi h => ?_) hHeld ?_
  · simp only [List.getElem?_toArray, List.getElem?_cons_succ, List.getElem?_cons_zero, Option.some.injEq] at h
    subst h
    refine Or.inl ⟨by rfl, fun w' hSw => ?_⟩
    obtain ⟨x0, x1, x2, x3, x4, x5, x6, x7, x8, x9, x10, x11, x12, x13, x14⟩ := hSw
    go_simp
  try simp only [Act.put, List.setIfInBounds_toArray, List.set_cons_zero, List.set_cons_succ]
  refine takeD (i := 18) (d := some 76) (v := .bool true) (by kernel_rfl) (by kernel_rfl) (by kernel_rfl) (by kernel_rfl) (fun _ _ _ h => h) (fun oi h => ?_) hHeld ?_
  · simp only [List.getElem?_toArray, List.getElem?_cons_succ, List.getElem?_cons_zero, Option.some.injEq] at h
    subst h
    refine Or.inl ⟨by rfl, fun w' hSw => ?_⟩
    obtain ⟨x0, x1, x2, x3, x4, x5, x6, x7, x8, x9, x10, x11, x12, x13, x14⟩ := hSw
    go_simp
  try simp only [Act.put, List.setIfInBounds_toArray, List.set_cons_zero, List.set_cons_succ]
  refine takeD (i := 19) (d := some 77) (v := .int .i64 0) (by kernel_rfl) (by kernel_rfl) (by kernel_rfl) (by kernel_rfl) (fun _ _ _ h => h) (fun oi h => ?_) hHeld ?_
  · simp only [List.getElem?_toArray, List.getElem?_cons_succ, List.getElem?_cons_zero, Option.some.injEq] at h
    subst h
    refine Or.inl ⟨by rfl, fun w' hSw => ?_⟩
    obtain ⟨x0, x1, x2, x3, x4, x5, x6, x7, x8, x9, x10, x11, x12, x13, x14⟩ := hSw
    go_simp
  try simp only [Act.put, List.setIfInBounds_toArray, List.set_cons_zero, List.set_cons_succ]
  refine takeD (i := 20) (d := some 78) (v := .bool true) (by kernel_rfl) (by kernel_rfl) (by kernel_rfl) (by kernel_rfl) (fun _ _ _ h => h) (fun oi h => ?_) hHeld ?_
  · simp only [List.getElem?_toArray, List.getElem?_cons_succ, List.getElem?_cons_zero, Option.some.injEq] at h
    subst h
    refine Or.inl ⟨by rfl, fun w' hSw => ?_⟩
    obtain ⟨x0, x1, x2, x3, x4, x5, x6, x7, x8, x9, x10, x11, x12, x13, x14⟩ := hSw
    go_simp
  try simp only [Act.put, List.setIfInBounds_toArray, List.set_cons_zero, List.set_cons_succ]
  refine takeD (i := 21) (d := some 79) (v := .bool true) (by kernel_rfl) (by kernel_rfl) (by kernel_rfl) (by kernel_rfl) (fun _ _ _ h => h) (fun oi h => ?_) hHeld ?_
  · simp only [List.getElem?_toArray, List.getElem?_cons_succ, List.getElem?_cons_zero, Option.some.injEq] at h
    subst h
    refine Or.inl ⟨by rfl, fun w' hSw => ?_⟩
    obtain ⟨x0, x1, x2, x3, x4, x5, x6, x7, x8, x9, x10, x11, x12, x13, x14⟩ := hSw
    go_simp
  try simp only [Act.put, List.setIfInBounds_toArray, List.set_cons_zero, List.set_cons_succ]
  refine takeD (i := 22) (d := some 80) (v := .bool true) (by kernel_rfl) (by kernel_rfl) (by kernel_rfl) (by kernel_rfl) (fun _ _ _ h => h) (fun oi h => ?_) hHeld ?_
  · simp only [List.getElem?_toArray, List.getElem?_cons_succ, List.getElem?_cons_zero, Option.some.injEq] at h
    subst h
    refine Or.inl ⟨by rfl, fun w' hSw => ?_⟩
    obtain ⟨x0, x1, x2, x3, x4, x5, x6, x7, x8, x9, x10, x11, x12, x13, x14⟩ := hSw
    go_simp
  try simp only [Act.put, List.setIfInBounds_toArray, List.set_cons_zero, List.set_cons_succ]
  refine takeD (i := 23) (d := some 81) (v := .int .i64 112) (by kernel_rfl) (by kernel_rfl) (by kernel_rfl) (by kernel_rfl) (fun _ _ _ h => h) (fun oi h => ?_) hHeld ?_
  · simp only [List.getElem?_toArray, List.getElem?_cons_succ, List.getElem?_cons_zero, Option.some.injEq] at h
    subst h
    refine Or.inl ⟨by rfl, fun w' hSw => ?_⟩
    obtain ⟨x0, x1, x2, x3, x4, x5, x6, x7, x8, x9, x10, x11, x12, x13, x14⟩ := hSw
    go_simp
  try simp only [Act.put, List.setIfInBounds_toArray, List.set_cons_zero, List.set_cons_succ]
  refine takeD (i := 24) (d := some 82) (v := .bool true) (by kernel_rfl) (by kernel_rfl) (by kernel_rfl) (by kernel_rfl) (fun _ _ _ h => h) (fun oi h => ?_) hHeld ?_
  · simp only [List.getElem?_toArray, List.getElem?_cons_succ, List.getElem?_cons_zero, Option.some.injEq] at h
    subst h
    refine Or.inl ⟨by rfl, fun w' hSw => ?_⟩
    obtain ⟨x0, x1, x2, x3, x4, x5, x6, x7, x8, x9, x10, x11, x12, x13, x14⟩ := hSw
    go_simp
  try simp only [Act.put, List.setIfInBounds_toArray, List.set_cons_zero, List.set_cons_succ]
  refine takeD (i := 25) (d := some 83) (v := .bool true) (by kernel_rfl) (by kernel_rfl) (by kernel_rfl) (by kernel_rfl) (fun _ _ _ h => h) (fun oi h => ?_) hHeld ?_
  · simp only [List.getElem?_toArray, List.getElem?_cons_succ, List.getElem?_cons_zero, Option.some.injEq] at h
    subst h
    refine Or.inl ⟨by rfl, fun w' hSw => ?_⟩
    obtain ⟨x0, x1, x2, x3, x4, x5, x6, x7, x8, x9, x10, x11, x12, x13, x14⟩ := hSw
    go_simp
  try simp only [Act.put, List.setIfInBounds_toArray, List.set_cons_zero, List.set_cons_succ]
  refine takeD (i := 26) (d := some 84) (v := .bool true) (by kernel_rfl) (by kernel_rfl) (by kernel_rfl) (by kernel_rfl) (fun _ _ _ h => h) (fun oi h => ?_) hHeld ?_
  · simp only [List.getElem?_toArray, List.getElem?_cons_succ, List.getElem?_cons_zero, Option.some.injEq] at h
    subst h
    refine Or.inl ⟨by rfl, fun w' hSw => ?_⟩
    obtain ⟨x0, x1, x2, x3, x4, x5, x6, x7, x8, x9, x10, x11, x12, x13, x14⟩ := hSw
    go_simp
  try simp only [Act.put, List.setIfInBounds_toArray, List.set_cons_zero, List.set_cons_succ]
  refine takeD (i := 27) (d := some 85) (v := .agg #[.int .u8 10, .int .i64 0, .int .i64 0, .int .i64 0, .int .i64 0]) (by kernel_rfl) (by kernel_rfl) (by kernel_rfl) (by kernel_rfl) (fun _ _ _ h => h) (fun oi h => ?_) hHeld ?_
  · simp only [List.getElem?_toArray, List.getElem?_cons_succ, List.getElem?_cons_zero, Option.some.injEq] at h
    subst h
    refine Or.inl ⟨by rfl, fun w' hSw => ?_⟩
    obtain ⟨x0, x1, x2, x3, x4, x5, x6, x7, x8, x9, x10, x11, x12, x13, x14⟩ := hSw
    go_simp
  try simp only [Act.put, List.setIfInBounds_toArray, List.set_cons_zero, List.set_cons_succ]
  refine takeD (i := 28) (d := some 86) (v := .agg #[.int .u8 10, .int .i64 0, .int .i64 0, .int .i64 0, .int .i64 0]) (by kernel_rfl) (by kernel_rfl) (by kernel_rfl) (by kernel_rfl) (fun _ _ _ h => h) (fun oi h => ?_) hHeld ?_
  · simp only [List.getElem?_toArray, List.getElem?_cons_succ, List.getElem?_cons_zero, Option.some.injEq] at h
    subst h
    refine Or.inl ⟨by rfl, fun w' hSw => ?_⟩
    obtain ⟨x0, x1, x2, x3, x4, x5, x6, x7, x8, x9, x10, x11, x12, x13, x14⟩ := hSw
    go_simp
  try simp only [Act.put, List.setIfInBounds_toArray, List.set_cons_zero, List.set_cons_succ]
  refine takeD (i := 29) (d := some 87) (v := .bool true) (by kernel_rfl) (by kernel_rfl) (by kernel_rfl) (by kernel_rfl) (fun _ _ _ h => h) (fun oi h => ?_) hHeld ?_
  · simp only [List.getElem?_toArray, List.getElem?_cons_succ, List.getElem?_cons_zero, Option.some.injEq] at h
    subst h
    refine Or.inl ⟨by rfl, fun w' hSw => ?_⟩
    obtain ⟨x0, x1, x2, x3, x4, x5, x6, x7, x8, x9, x10, x11, x12, x13, x14⟩ := hSw
    go_simp
  try simp only [Act.put, List.setIfInBounds_toArray, List.set_cons_zero, List.set_cons_succ]
  refine takeD (i := 30) (d := some 88) (v := .bool true) (by kernel_rfl) (by kernel_rfl) (by kernel_rfl) (by kernel_rfl) (fun _ _ _ h => h) (fun oi h => ?_) hHeld ?_
  · simp only [List.getElem?_toArray, List.getElem?_cons_succ, List.getElem?_cons_zero, Option.some.injEq] at h
    subst h
    refine Or.inl ⟨by rfl, fun w' hSw => ?_⟩
    obtain ⟨x0, x1, x2, x3, x4, x5, x6, x7, x8, x9, x10, x11, x12, x13, x14⟩ := hSw
    go_simp
  try simp only [Act.put, List.setIfInBounds_toArray, List.set_cons_zero, List.set_cons_succ]
  refine takeD (i := 31) (d := some 89) (v := .bool true) (by kernel_rfl) (by kernel_rfl) (by kernel_rfl) (by kernel_rfl) (fun _ _ _ h => h) (fun oi h => ?_) hHeld ?_
  · simp only [List.getElem?_toArray, List.getElem?_cons_succ, List.getElem?_cons_zero, Option.some.injEq] at h
    subst h
    refine Or.inl ⟨by rfl, fun w' hSw => ?_⟩
    obtain ⟨x0, x1, x2, x3, x4, x5, x6, x7, x8, x9, x10, x11, x12, x13, x14⟩ := hSw
    go_simp
  try simp only [Act.put, List.setIfInBounds_toArray, List.set_cons_zero, List.set_cons_succ]
  refine takeD (i := 32) (d := some 90) (v := .bool true) (by kernel_rfl) (by kernel_rfl) (by kernel_rfl) (by kernel_rfl) (fun _ _ _ h => h) (fun oi h => ?_) hHeld ?_
  · simp only [List.getElem?_toArray, List.getElem?_cons_succ, List.getElem?_cons_zero, Option.some.injEq] at h
    subst h
    refine Or.inl ⟨by rfl, fun w' hSw => ?_⟩
    obtain ⟨x0, x1, x2, x3, x4, x5, x6, x7, x8, x9, x10, x11, x12, x13, x14⟩ := hSw
    go_simp
  try simp only [Act.put, List.setIfInBounds_toArray, List.set_cons_zero, List.set_cons_succ]
  refine takeD (i := 33) (d := some 91) (v := .bool true) (by kernel_rfl) (by kernel_rfl) (by kernel_rfl) (by kernel_rfl) (fun _ _ _ h => h) (fun oi h => ?_) hHeld ?_
  · simp only [List.getElem?_toArray, List.getElem?_cons_succ, List.getElem?_cons_zero, Option.some.injEq] at h
    subst h
    refine Or.inl ⟨by rfl, fun w' hSw => ?_⟩
    obtain ⟨x0, x1, x2, x3, x4, x5, x6, x7, x8, x9, x10, x11, x12, x13, x14⟩ := hSw
    go_simp
  try simp only [Act.put, List.setIfInBounds_toArray, List.set_cons_zero, List.set_cons_succ]
  refine takeD (i := 34) (d := some 92) (v := .bool true) (by kernel_rfl) (by kernel_rfl) (by kernel_rfl) (by kernel_rfl) (fun _ _ _ h => h) (fun oi h => ?_) hHeld ?_
  · simp only [List.getElem?_toArray, List.getElem?_cons_succ, List.getElem?_cons_zero, Option.some.injEq] at h
    subst h
    refine Or.inl ⟨by rfl, fun w' hSw => ?_⟩
    obtain ⟨x0, x1, x2, x3, x4, x5, x6, x7, x8, x9, x10, x11, x12, x13, x14⟩ := hSw
    go_simp
  try simp only [Act.put, List.setIfInBounds_toArray, List.set_cons_zero, List.set_cons_succ]
  refine wpAnyH_cut (fun a0 a w' => ∃ y93 y94 y95 y96 y97 y98 y99 y100 : Value, a = (((((((((a0.put (some 93) y93).put (some 94) y94).put (some 95) y95).put (some 96) y96).put (some 97) y97).put (some 98) y98).put (some 99) y99).put (some 100) y100).put (some 101) (.bool true)) ∧ Below wf.heap.size wf w') (f' := 18) (l' := #[true, true, true, true, true, true, true, true, true, true, true, true, true, true, true, true, true, true, true, true, true, true, true, true, true, true, true, true, true, true, true, true, true, true, true, true, true, true, true, true, true, true, true, true, false, false, false, false, false, false, false, false, false, false, false, false, false, false, false, false, false, false]) ?_ (fun rest => ?_)
  rotate_left 1
  · refine takeD (i := 35) (d := some 93) (v := .agg #[.int .u8 10, .int .i64 0, .int .i64 0, .int .i64 0, .int .i64 0]) (by kernel_rfl) (by kernel_rfl) (by kernel_rfl) (by kernel_rfl) (fun _ _ _ h => h) (fun oi h => ?_) hHeld ?_
    · simp only [List.getElem?_toArray, List.getElem?_cons_succ, List.getElem?_cons_zero, Option.some.injEq] at h
      subst h
      refine Or.inl ⟨by rfl, fun w' hSw => ?_⟩
      obtain ⟨x0, x1, x2, x3, x4, x5, x6, x7, x8, x9, x10, x11, x12, x13, x14⟩ := hSw
      go_simp
    try simp only [Act.put, List.setIfInBounds_toArray, List.set_cons_zero, List.set_cons_succ]
    refine takeD (i := 38) (d := some 96) (v := .agg #[.int .u8 10, .int .i64 0, .int .i64 0, .int .i64 0, .int .i64 0]) (by kernel_rfl) (by kernel_rfl) (by kernel_rfl) (by kernel_rfl) (fun _ _ _ h => h) (fun oi h => ?_) hHeld ?_
    · simp only [List.getElem?_toArray, List.getElem?_cons_succ, List.getElem?_cons_zero, Option.some.injEq] at h
      subst h
      refine Or.inl ⟨by rfl, fun w' hSw => ?_⟩
      obtain ⟨x0, x1, x2, x3, x4, x5, x6, x7, x8, x9, x10, x11, x12, x13, x14⟩ := hSw
      go_simp
    try simp only [Act.put, List.setIfInBounds_toArray, List.set_cons_zero, List.set_cons_succ]
    refine wpAnyH_ready (rs := [36, 39]) (by kernel_rfl) (by simp) ?_
    refine AllReadyH.cons rfl (fun K hKK => ?_) (AllReadyH.cons rfl (fun K hKK => ?_) AllReadyH.nil)
    · go_simp
      refine hKK.out _ _ (hS _ (bA hD0 _)) (fun hHeld => ?_)
      clear hKK K
      try simp only [Act.put, List.setIfInBounds_toArray, List.set_cons_zero, List.set_cons_succ]
      refine wpAnyH_ready (rs := [37, 39]) (by kernel_rfl) (by simp) ?_
      refine AllReadyH.cons rfl (fun K hKK => ?_) (AllReadyH.cons rfl (fun K hKK => ?_) AllReadyH.nil)
      · go_simp
        refine (code_any [endI] wd.heap.size (wd.alloc (.cells #[.int .u8 10, .int .i64 0, .int .i64 0, .int .i64 0, .int .i64 0] 34)) (blk_new wd _ _)).mono ?_
        rintro e n1 ⟨g1, rfl, i1, hb1⟩
        have hB1 := below_next (bA hD0 _) hb1 (Nat.le_refl _)
        refine hKK.out _ _ (hS _ hB1) (fun hHeld => ?_)
        clear hKK K
        try simp only [Act.put, List.setIfInBounds_toArray, List.set_cons_zero, List.set_cons_succ]
        refine wpAnyH_ready (rs := [39]) (by kernel_rfl) (by simp) ?_
        refine AllReadyH.cons rfl (fun K hKK => ?_) AllReadyH.nil
        go_simp
        refine hKK.out _ _ (hS _ (bA hB1 _)) (fun hHeld => ?_)
        clear hKK K
        try simp only [Act.put, List.setIfInBounds_toArray, List.set_cons_zero, List.set_cons_succ]
        refine wpAnyH_ready (rs := [40]) (by kernel_rfl) (by simp) ?_
        refine AllReadyH.cons rfl (fun K hKK => ?_) AllReadyH.nil
        go_simp
        refine (code_any [endI] n1.heap.size (n1.alloc (.cells #[.int .u8 10, .int .i64 0, .int .i64 0, .int .i64 0, .int .i64 0] 34)) (blk_new n1 _ _)).mono ?_
        rintro e n2 ⟨g2, rfl, i2, hb2⟩
        have hB2 := below_next (bA hB1 _) hb2 (Nat.le_refl _)
        have i1' := (i1.alloc (.cells #[.int .u8 10, .int .i64 0, .int .i64 0, .int .i64 0, .int .i64 0] 34)).on hb2
        refine hKK.out _ _ (hS _ hB2) (fun hHeld => ?_)
        clear hKK K
        try simp only [Act.put, List.setIfInBounds_toArray, List.set_cons_zero, List.set_cons_succ]
        refine wpAnyH_ready (rs := [41]) (by kernel_rfl) (by simp) ?_
        refine AllReadyH.cons rfl (fun K hKK => ?_) AllReadyH.nil
        go_simp
        refine (copy_any n2 (i2.at end_ok) (small_one (by decide))).mono ?_
        rintro e n3 ⟨p1, p2, p3, rfl, oc, hb3⟩
        have hB3 := below_next hB2 hb3 (Nat.le_refl _)
        have pc := oc.at (fit_one end_ok)
        have i1c := i1'.on hb3
        refine hKK.out _ _ (hS _ hB3) (fun hHeld => ?_)
        clear hKK K
        try simp only [Act.put, List.setIfInBounds_toArray, List.set_cons_zero, List.set_cons_succ]
        refine wpAnyH_ready (rs := [42]) (by kernel_rfl) (by simp) ?_
        refine AllReadyH.cons rfl (fun K hKK => ?_) AllReadyH.nil
        go_simp
        refine (same_end n3 i1c pc).mono ?_
        rintro e n4 ⟨rfl, hb4⟩
        have hB4 := below_next hB3 hb4 (Nat.le_refl _)
        refine hKK.out _ _ (hS _ hB4) (fun hHeld => ?_)
        clear hKK K
        try simp only [Act.put, List.setIfInBounds_toArray, List.set_cons_zero, List.set_cons_succ]
        refine takeD (i := 43) (d := some 101) (v := .bool true) (by kernel_rfl) (by kernel_rfl) (by kernel_rfl) (by kernel_rfl) (fun _ _ _ h => h) (fun oi h => ?_) hHeld ?_
        · simp only [List.getElem?_toArray, List.getElem?_cons_succ, List.getElem?_cons_zero, Option.some.injEq] at h
          subst h
          refine Or.inl ⟨by rfl, fun w' hSw => ?_⟩
          obtain ⟨x0, x1, x2, x3, x4, x5, x6, x7, x8, x9, x10, x11, x12, x13, x14⟩ := hSw
          go_simp
        try simp only [Act.put, List.setIfInBounds_toArray, List.set_cons_zero, List.set_cons_succ]
        refine rest _ _ ⟨.agg #[.int .u8 10, .int .i64 0, .int .i64 0, .int .i64 0, .int .i64 0], .slice (some ⟨wd.heap.size, 0, none⟩) 1 1, .agg #[.slice none 0 0, .slice (some ⟨g1, 0, none⟩) 1 1, .slice none 0 0], .agg #[.int .u8 10, .int .i64 0, .int .i64 0, .int .i64 0, .int .i64 0], .slice (some ⟨n1.heap.size, 0, none⟩) 1 1, .agg #[.slice none 0 0, .slice (some ⟨g2, 0, none⟩) 1 1, .slice none 0 0], .agg #[p1, p2, p3], .bool true, ?_, hB4⟩
        simp only [Act.put, List.setIfInBounds_toArray, List.set_cons_zero, List.set_cons_succ]
      · go_simp
        refine hKK.out _ _ (hS _ (bA (bA hD0 _) _)) (fun hHeld => ?_)
        clear hKK K
        try simp only [Act.put, List.setIfInBounds_toArray, List.set_cons_zero, List.set_cons_succ]
        refine wpAnyH_ready (rs := [37]) (by kernel_rfl) (by simp) ?_
        refine AllReadyH.cons rfl (fun K hKK => ?_) AllReadyH.nil
        go_simp
        refine (code_any [endI] wd.heap.size ((wd.alloc (.cells #[.int .u8 10, .int .i64 0, .int .i64 0, .int .i64 0, .int .i64 0] 34)).alloc (.cells #[.int .u8 10, .int .i64 0, .int .i64 0, .int .i64 0, .int .i64 0] 34)) ((blk_new wd _ _).alloc _)).mono ?_
        rintro e n1 ⟨g1, rfl, i1, hb1⟩
        have hB1 := below_next (bA (bA hD0 _) _) hb1 (Nat.le_refl _)
        have hq : Blk n1 (wd.heap.size + 1) 34 #[.int .u8 10, .int .i64 0, .int .i64 0, .int .i64 0, .int .i64 0] := (blk_at (W := (wd.alloc (.cells #[.int .u8 10, .int .i64 0, .int .i64 0, .int .i64 0, .int .i64 0] 34))) (World.size_alloc _ _).symm).on hb1
        refine hKK.out _ _ (hS _ hB1) (fun hHeld => ?_)
        clear hKK K
        try simp only [Act.put, List.setIfInBounds_toArray, List.set_cons_zero, List.set_cons_succ]
        refine wpAnyH_ready (rs := [40]) (by kernel_rfl) (by simp) ?_
        refine AllReadyH.cons rfl (fun K hKK => ?_) AllReadyH.nil
        go_simp
        refine (code_any [endI] (wd.heap.size + 1) n1 hq).mono ?_
        rintro e n2 ⟨g2, rfl, i2, hb2⟩
        have hB2 := below_next hB1 hb2 (Nat.le_refl _)
        have i1' := i1.on hb2
        refine hKK.out _ _ (hS _ hB2) (fun hHeld => ?_)
        clear hKK K
        try simp only [Act.put, List.setIfInBounds_toArray, List.set_cons_zero, List.set_cons_succ]
        refine wpAnyH_ready (rs := [41]) (by kernel_rfl) (by simp) ?_
        refine AllReadyH.cons rfl (fun K hKK => ?_) AllReadyH.nil
        go_simp
        refine (copy_any n2 (i2.at end_ok) (small_one (by decide))).mono ?_
        rintro e n3 ⟨p1, p2, p3, rfl, oc, hb3⟩
        have hB3 := below_next hB2 hb3 (Nat.le_refl _)
        have pc := oc.at (fit_one end_ok)
        have i1c := i1'.on hb3
        refine hKK.out _ _ (hS _ hB3) (fun hHeld => ?_)
        clear hKK K
        try simp only [Act.put, List.setIfInBounds_toArray, List.set_cons_zero, List.set_cons_succ]
        refine wpAnyH_ready (rs := [42]) (by kernel_rfl) (by simp) ?_
        refine AllReadyH.cons rfl (fun K hKK => ?_) AllReadyH.nil
        go_simp
        refine (same_end n3 i1c pc).mono ?_
        rintro e n4 ⟨rfl, hb4⟩
        have hB4 := below_next hB3 hb4 (Nat.le_refl _)
        refine hKK.out _ _ (hS _ hB4) (fun hHeld => ?_)
        clear hKK K
        try simp only [Act.put, List.setIfInBounds_toArray, List.set_cons_zero, List.set_cons_succ]
        refine takeD (i := 43) (d := some 101) (v := .bool true) (by kernel_rfl) (by kernel_rfl) (by kernel_rfl) (by kernel_rfl) (fun _ _ _ h => h) (fun oi h => ?_) hHeld ?_
        · simp only [List.getElem?_toArray, List.getElem?_cons_succ, List.getElem?_cons_zero, Option.some.injEq] at h
          subst h
          refine Or.inl ⟨by rfl, fun w' hSw => ?_⟩
          obtain ⟨x0, x1, x2, x3, x4, x5, x6, x7, x8, x9, x10, x11, x12, x13, x14⟩ := hSw
          go_simp
        try simp only [Act.put, List.setIfInBounds_toArray, List.set_cons_zero, List.set_cons_succ]
        refine rest _ _ ⟨.agg #[.int .u8 10, .int .i64 0, .int .i64 0, .int .i64 0, .int .i64 0], .slice (some ⟨wd.heap.size, 0, none⟩) 1 1, .agg #[.slice none 0 0, .slice (some ⟨g1, 0, none⟩) 1 1, .slice none 0 0], .agg #[.int .u8 10, .int .i64 0, .int .i64 0, .int .i64 0, .int .i64 0], .slice (some ⟨wd.heap.size + 1, 0, none⟩) 1 1, .agg #[.slice none 0 0, .slice (some ⟨g2, 0, none⟩) 1 1, .slice none 0 0], .agg #[p1, p2, p3], .bool true, ?_, hB4⟩
        simp only [Act.put, List.setIfInBounds_toArray, List.set_cons_zero, List.set_cons_succ]
    · go_simp
      refine hKK.out _ _ (hS _ (bA hD0 _)) (fun hHeld => ?_)
      clear hKK K
      try simp only [Act.put, List.setIfInBounds_toArray, List.set_cons_zero, List.set_cons_succ]
      refine wpAnyH_ready (rs := [36]) (by kernel_rfl) (by simp) ?_
      refine AllReadyH.cons rfl (fun K hKK => ?_) AllReadyH.nil
      go_simp
      refine hKK.out _ _ (hS _ (bA (bA hD0 _) _)) (fun hHeld => ?_)
      clear hKK K
      try simp only [Act.put, List.setIfInBounds_toArray, List.set_cons_zero, List.set_cons_succ]
      refine wpAnyH_ready (rs := [37]) (by kernel_rfl) (by simp) ?_
      refine AllReadyH.cons rfl (fun K hKK => ?_) AllReadyH.nil
      go_simp
      refine (code_any [endI] (wd.heap.size + 1) ((wd.alloc (.cells #[.int .u8 10, .int .i64 0, .int .i64 0, .int .i64 0, .int .i64 0] 34)).alloc (.cells #[.int .u8 10, .int .i64 0, .int .i64 0, .int .i64 0, .int .i64 0] 34)) (blk_at (W := (wd.alloc (.cells #[.int .u8 10, .int .i64 0, .int .i64 0, .int .i64 0, .int .i64 0] 34))) (World.size_alloc _ _).symm)).mono ?_
      rintro e n1 ⟨g1, rfl, i1, hb1⟩
      have hB1 := below_next (bA (bA hD0 _) _) hb1 (Nat.le_refl _)
      have hq : Blk n1 wd.heap.size 34 #[.int .u8 10, .int .i64 0, .int .i64 0, .int .i64 0, .int .i64 0] := ((blk_new wd _ _).alloc _).on hb1
      refine hKK.out _ _ (hS _ hB1) (fun hHeld => ?_)
      clear hKK K
      try simp only [Act.put, List.setIfInBounds_toArray, List.set_cons_zero, List.set_cons_succ]
      refine wpAnyH_ready (rs := [40]) (by kernel_rfl) (by simp) ?_
      refine AllReadyH.cons rfl (fun K hKK => ?_) AllReadyH.nil
      go_simp
      refine (code_any [endI] wd.heap.size n1 hq).mono ?_
      rintro e n2 ⟨g2, rfl, i2, hb2⟩
      have hB2 := below_next hB1 hb2 (Nat.le_refl _)
      have i1' := i1.on hb2
      refine hKK.out _ _ (hS _ hB2) (fun hHeld => ?_)
      clear hKK K
      try simp only [Act.put, List.setIfInBounds_toArray, List.set_cons_zero, List.set_cons_succ]
      refine wpAnyH_ready (rs := [41]) (by kernel_rfl) (by simp) ?_
      refine AllReadyH.cons rfl (fun K hKK => ?_) AllReadyH.nil
      go_simp
      refine (copy_any n2 (i2.at end_ok) (small_one (by decide))).mono ?_
      rintro e n3 ⟨p1, p2, p3, rfl, oc, hb3⟩
      have hB3 := below_next hB2 hb3 (Nat.le_refl _)
      have pc := oc.at (fit_one end_ok)
      have i1c := i1'.on hb3
      refine hKK.out _ _ (hS _ hB3) (fun hHeld => ?_)
      clear hKK K
      try simp only [Act.put, List.setIfInBounds_toArray, List.set_cons_zero, List.set_cons_succ]
      refine wpAnyH_ready (rs := [42]) (by kernel_rfl) (by simp) ?_
      refine AllReadyH.cons rfl (fun K hKK => ?_) AllReadyH.nil
      go_simp
      refine (same_end n3 i1c pc).mono ?_
      rintro e n4 ⟨rfl, hb4⟩
      have hB4 := below_next hB3 hb4 (Nat.le_refl _)
      refine hKK.out _ _ (hS _ hB4) (fun hHeld => ?_)
      clear hKK K
      try simp only [Act.put, List.setIfInBounds_toArray, List.set_cons_zero, List.set_cons_succ]
      refine takeD (i := 43) (d := some 101) (v := .bool true) (by kernel_rfl) (by kernel_rfl) (by kernel_rfl) (by kernel_rfl) (fun _ _ _ h => h) (fun oi h => ?_) hHeld ?_
      · simp only [List.getElem?_toArray, List.getElem?_cons_succ, List.getElem?_cons_zero, Option.some.injEq] at h
        subst h
        refine Or.inl ⟨by rfl, fun w' hSw => ?_⟩
        obtain ⟨x0, x1, x2, x3, x4, x5, x6, x7, x8, x9, x10, x11, x12, x13, x14⟩ := hSw
        go_simp
      try simp only [Act.put, List.setIfInBounds_toArray, List.set_cons_zero, List.set_cons_succ]
      refine rest _ _ ⟨.agg #[.int .u8 10, .int .i64 0, .int .i64 0, .int .i64 0, .int .i64 0], .slice (some ⟨wd.heap.size + 1, 0, none⟩) 1 1, .agg #[.slice none 0 0, .slice (some ⟨g1, 0, none⟩) 1 1, .slice none 0 0], .agg #[.int .u8 10, .int .i64 0, .int .i64 0, .int .i64 0, .int .i64 0], .slice (some ⟨wd.heap.size, 0, none⟩) 1 1, .agg #[.slice none 0 0, .slice (some ⟨g2, 0, none⟩) 1 1, .slice none 0 0], .agg #[p1, p2, p3], .bool true, ?_, hB4⟩
      simp only [Act.put, List.setIfInBounds_toArray, List.set_cons_zero, List.set_cons_succ]
  rintro a wx ⟨y93, y94, y95, y96, y97, y98, y99, y100, rfl, hD1⟩
  clear hHeld hD0
  have hHeld := hS _ hD1
  simp only [Act.put, List.setIfInBounds_toArray, List.set_cons_zero, List.set_cons_succ]
  refine wpAnyH_cut (fun a0 a w' => ∃ y102 y103 y104 y105 y106 y107 y108 y109 y110 : Value, a = ((((((((((a0.put (some 102) y102).put (some 103) y103).put (some 104) y104).put (some 105) y105).put (some 106) y106).put (some 107) y107).put (some 108) y108).put (some 109) y109).put (some 110) y110).put (some 111) (.bool true)) ∧ Below wf.heap.size wf w') (f' := 8) (l' := #[true, true, true, true, true, true, true, true, true, true, true, true, true, true, true, true, true, true, true, true, true, true, true, true, true, true, true, true, true, true, true, true, true, true, true, true, true, true, true, true, true, true, true, true, true, true, true, true, true, true, true, true, true, true, false, false, false, false, false, false, false, false]) ?_ (fun rest => ?_)
  rotate_left 1
  · refine takeD (i := 44) (d := some 102) (v := .bool true) (by kernel_rfl) (by kernel_rfl) (by kernel_rfl) (by kernel_rfl) (fun _ _ _ h => h) (fun oi h => ?_) hHeld ?_
    · simp only [List.getElem?_toArray, List.getElem?_cons_succ, List.getElem?_cons_zero, Option.some.injEq] at h
      subst h
      refine Or.inl ⟨by rfl, fun w' hSw => ?_⟩
      obtain ⟨x0, x1, x2, x3, x4, x5, x6, x7, x8, x9, x10, x11, x12, x13, x14⟩ := hSw
      go_simp
    try simp only [Act.put, List.setIfInBounds_toArray, List.set_cons_zero, List.set_cons_succ]
    refine takeD (i := 45) (d := some 103) (v := .agg #[.int .u8 10, .int .i64 0, .int .i64 0, .int .i64 0, .int .i64 0]) (by kernel_rfl) (by kernel_rfl) (by kernel_rfl) (by kernel_rfl) (fun _ _ _ h => h) (fun oi h => ?_) hHeld ?_
    · simp only [List.getElem?_toArray, List.getElem?_cons_succ, List.getElem?_cons_zero, Option.some.injEq] at h
      subst h
      refine Or.inl ⟨by rfl, fun w' hSw => ?_⟩
      obtain ⟨x0, x1, x2, x3, x4, x5, x6, x7, x8, x9, x10, x11, x12, x13, x14⟩ := hSw
      go_simp
    try simp only [Act.put, List.setIfInBounds_toArray, List.set_cons_zero, List.set_cons_succ]
    refine takeD (i := 48) (d := some 106) (v := .agg #[.int .u8 1, .int .i64 0, .int .i64 0, .int .i64 0, .int .i64 0]) (by kernel_rfl) (by kernel_rfl) (by kernel_rfl) (by kernel_rfl) (fun _ _ _ h => h) (fun oi h => ?_) hHeld ?_
    · simp only [List.getElem?_toArray, List.getElem?_cons_succ, List.getElem?_cons_zero, Option.some.injEq] at h
      subst h
      refine Or.inl ⟨by rfl, fun w' hSw => ?_⟩
      obtain ⟨x0, x1, x2, x3, x4, x5, x6, x7, x8, x9, x10, x11, x12, x13, x14⟩ := hSw
      go_simp
    try simp only [Act.put, List.setIfInBounds_toArray, List.set_cons_zero, List.set_cons_succ]
    refine wpAnyH_ready (rs := [46, 49]) (by kernel_rfl) (by simp) ?_
    refine AllReadyH.cons rfl (fun K hKK => ?_) (AllReadyH.cons rfl (fun K hKK => ?_) AllReadyH.nil)
    · go_simp
      refine hKK.out _ _ (hS _ (bA hD1 _)) (fun hHeld => ?_)
      clear hKK K
      try simp only [Act.put, List.setIfInBounds_toArray, List.set_cons_zero, List.set_cons_succ]
      refine wpAnyH_ready (rs := [47, 49]) (by kernel_rfl) (by simp) ?_
      refine AllReadyH.cons rfl (fun K hKK => ?_) (AllReadyH.cons rfl (fun K hKK => ?_) AllReadyH.nil)
      · go_simp
        refine (code_any [endI] wx.heap.size (wx.alloc (.cells #[.int .u8 10, .int .i64 0, .int .i64 0, .int .i64 0, .int .i64 0] 34)) (blk_new wx _ _)).mono ?_
        rintro e n1 ⟨g1, rfl, i1, hb1⟩
        have hB1 := below_next (bA hD1 _) hb1 (Nat.le_refl _)
        refine hKK.out _ _ (hS _ hB1) (fun hHeld => ?_)
        clear hKK K
        try simp only [Act.put, List.setIfInBounds_toArray, List.set_cons_zero, List.set_cons_succ]
        refine wpAnyH_ready (rs := [49]) (by kernel_rfl) (by simp) ?_
        refine AllReadyH.cons rfl (fun K hKK => ?_) AllReadyH.nil
        go_simp
        refine hKK.out _ _ (hS _ (bA hB1 _)) (fun hHeld => ?_)
        clear hKK K
        try simp only [Act.put, List.setIfInBounds_toArray, List.set_cons_zero, List.set_cons_succ]
        refine wpAnyH_ready (rs := [50]) (by kernel_rfl) (by simp) ?_
        refine AllReadyH.cons rfl (fun K hKK => ?_) AllReadyH.nil
        go_simp
        refine (code_any [setI] n1.heap.size (n1.alloc (.cells #[.int .u8 1, .int .i64 0, .int .i64 0, .int .i64 0, .int .i64 0] 34)) (blk_new n1 _ _)).mono ?_
        rintro e n2 ⟨g2, rfl, i2, hb2⟩
        have hB2 := below_next (bA hB1 _) hb2 (Nat.le_refl _)
        have i1' := (i1.alloc (.cells #[.int .u8 1, .int .i64 0, .int .i64 0, .int .i64 0, .int .i64 0] 34)).on hb2
        refine hKK.out _ _ (hS _ hB2) (fun hHeld => ?_)
        clear hKK K
        try simp only [Act.put, List.setIfInBounds_toArray, List.set_cons_zero, List.set_cons_succ]
        refine wpAnyH_ready (rs := [51]) (by kernel_rfl) (by simp) ?_
        refine AllReadyH.cons rfl (fun K hKK => ?_) AllReadyH.nil
        go_simp
        refine (same_not n2 i1' i2).mono ?_
        rintro e n4 ⟨rfl, hb4⟩
        have hB4 := below_next hB2 hb4 (Nat.le_refl _)
        refine hKK.out _ _ (hS _ hB4) (fun hHeld => ?_)
        clear hKK K
        try simp only [Act.put, List.setIfInBounds_toArray, List.set_cons_zero, List.set_cons_succ]
        refine takeD (i := 52) (d := some 110) (v := .bool true) (by kernel_rfl) (by kernel_rfl) (by kernel_rfl) (by kernel_rfl) (fun _ _ _ h => h) (fun oi h => ?_) hHeld ?_
        · simp only [List.getElem?_toArray, List.getElem?_cons_succ, List.getElem?_cons_zero, Option.some.injEq] at h
          subst h
          refine Or.inl ⟨by rfl, fun w' hSw => ?_⟩
          obtain ⟨x0, x1, x2, x3, x4, x5, x6, x7, x8, x9, x10, x11, x12, x13, x14⟩ := hSw
          go_simp
        try simp only [Act.put, List.setIfInBounds_toArray, List.set_cons_zero, List.set_cons_succ]
        refine takeD (i := 53) (d := some 111) (v := .bool true) (by kernel_rfl) (by kernel_rfl) (by kernel_rfl) (by kernel_rfl) (fun _ _ _ h => h) (fun oi h => ?_) hHeld ?_
        · simp only [List.getElem?_toArray, List.getElem?_cons_succ, List.getElem?_cons_zero, Option.some.injEq] at h
          subst h
          refine Or.inl ⟨by rfl, fun w' hSw => ?_⟩
          obtain ⟨x0, x1, x2, x3, x4, x5, x6, x7, x8, x9, x10, x11, x12, x13, x14⟩ := hSw
          go_simp
        try simp only [Act.put, List.setIfInBounds_toArray, List.set_cons_zero, List.set_cons_succ]
        refine rest _ _ ⟨.bool true, .agg #[.int .u8 10, .int .i64 0, .int .i64 0, .int .i64 0, .int .i64 0], .slice (some ⟨wx.heap.size, 0, none⟩) 1 1, .agg #[.slice none 0 0, .slice (some ⟨g1, 0, none⟩) 1 1, .slice none 0 0], .agg #[.int .u8 1, .int .i64 0, .int .i64 0, .int .i64 0, .int .i64 0], .slice (some ⟨n1.heap.size, 0, none⟩) 1 1, .agg #[.slice none 0 0, .slice (some ⟨g2, 0, none⟩) 1 1, .slice none 0 0], .bool false, .bool true, ?_, hB4⟩
        simp only [Act.put, List.setIfInBounds_toArray, List.set_cons_zero, List.set_cons_succ]
      · go_simp
        refine hKK.out _ _ (hS _ (bA (bA hD1 _) _)) (fun hHeld => ?_)
        clear hKK K
        try simp only [Act.put, List.setIfInBounds_toArray, List.set_cons_zero, List.set_cons_succ]
        refine wpAnyH_ready (rs := [47]) (by kernel_rfl) (by simp) ?_
        refine AllReadyH.cons rfl (fun K hKK => ?_) AllReadyH.nil
        go_simp
        refine (code_any [endI] wx.heap.size ((wx.alloc (.cells #[.int .u8 10, .int .i64 0, .int .i64 0, .int .i64 0, .int .i64 0] 34)).alloc (.cells #[.int .u8 1, .int .i64 0, .int .i64 0, .int .i64 0, .int .i64 0] 34)) ((blk_new wx _ _).alloc _)).mono ?_
        rintro e n1 ⟨g1, rfl, i1, hb1⟩
        have hB1 := below_next (bA (bA hD1 _) _) hb1 (Nat.le_refl _)
        have hq : Blk n1 (wx.heap.size + 1) 34 #[.int .u8 1, .int .i64 0, .int .i64 0, .int .i64 0, .int .i64 0] := (blk_at (W := (wx.alloc (.cells #[.int .u8 10, .int .i64 0, .int .i64 0, .int .i64 0, .int .i64 0] 34))) (World.size_alloc _ _).symm).on hb1
        refine hKK.out _ _ (hS _ hB1) (fun hHeld => ?_)
        clear hKK K
        try simp only [Act.put, List.setIfInBounds_toArray, List.set_cons_zero, List.set_cons_succ]
        refine wpAnyH_ready (rs := [50]) (by kernel_rfl) (by simp) ?_
        refine AllReadyH.cons rfl (fun K hKK => ?_) AllReadyH.nil
        go_simp
        refine (code_any [setI] (wx.heap.size + 1) n1 hq).mono ?_
        rintro e n2 ⟨g2, rfl, i2, hb2⟩
        have hB2 := below_next hB1 hb2 (Nat.le_refl _)
        have i1' := i1.on hb2
        refine hKK.out _ _ (hS _ hB2) (fun hHeld => ?_)
        clear hKK K
        try simp only [Act.put, List.setIfInBounds_toArray, List.set_cons_zero, List.set_cons_succ]
        refine wpAnyH_ready (rs := [51]) (by kernel_rfl) (by simp) ?_
        refine AllReadyH.cons rfl (fun K hKK => ?_) AllReadyH.nil
        go_simp
        refine (same_not n2 i1' i2).mono ?_
        rintro e n4 ⟨rfl, hb4⟩
        have hB4 := below_next hB2 hb4 (Nat.le_refl _)
        refine hKK.out _ _ (hS _ hB4) (fun hHeld => ?_)
        clear hKK K
        try simp only [Act.put, List.setIfInBounds_toArray, List.set_cons_zero, List.set_cons_succ]
        refine takeD (i := 52) (d := some 110) (v := .bool true) (by kernel_rfl) (by kernel_rfl) (by kernel_rfl) (by kernel_rfl) (fun _ _ _ h => h) (fun oi h => ?_) hHeld ?_
        · simp only [List.getElem?_toArray, List.getElem?_cons_succ, List.getElem?_cons_zero, Option.some.injEq] at h
          subst h
          refine Or.inl ⟨by rfl, fun w' hSw => ?_⟩
          obtain ⟨x0, x1, x2, x3, x4, x5, x6, x7, x8, x9, x10, x11, x12, x13, x14⟩ := hSw
          go_simp
        try simp only [Act.put, List.setIfInBounds_toArray, List.set_cons_zero, List.set_cons_succ]
        refine takeD (i := 53) (d := some 111) (v := .bool true) (by kernel_rfl) (by kernel_rfl) (by kernel_rfl) (by kernel_rfl) (fun _ _ _ h => h) (fun oi h => ?_) hHeld ?_
        · simp only [List.getElem?_toArray, List.getElem?_cons_succ, List.getElem?_cons_zero, Option.some.injEq] at h
          subst h
          refine Or.inl ⟨by rfl, fun w' hSw => ?_⟩
          obtain ⟨x0, x1, x2, x3, x4, x5, x6, x7, x8, x9, x10, x11, x12, x13, x14⟩ := hSw
          go_simp
        try simp only [Act.put, List.setIfInBounds_toArray, List.set_cons_zero, List.set_cons_succ]
        refine rest _ _ ⟨.bool true, .agg #[.int .u8 10, .int .i64 0, .int .i64 0, .int .i64 0, .int .i64 0], .slice (some ⟨wx.heap.size, 0, none⟩) 1 1, .agg #[.slice none 0 0, .slice (some ⟨g1, 0, none⟩) 1 1, .slice none 0 0], .agg #[.int .u8 1, .int .i64 0, .int .i64 0, .int .i64 0, .int .i64 0], .slice (some ⟨wx.heap.size + 1, 0, none⟩) 1 1, .agg #[.slice none 0 0, .slice (some ⟨g2, 0, none⟩) 1 1, .slice none 0 0], .bool false, .bool true, ?_, hB4⟩
        simp only [Act.put, List.setIfInBounds_toArray, List.set_cons_zero, List.set_cons_succ]
    · go_simp
      refine hKK.out _ _ (hS _ (bA hD1 _)) (fun hHeld => ?_)
      clear hKK K
      try simp only [Act.put, List.setIfInBounds_toArray, List.set_cons_zero, List.set_cons_succ]
      refine wpAnyH_ready (rs := [46]) (by kernel_rfl) (by simp) ?_
      refine AllReadyH.cons rfl (fun K hKK => ?_) AllReadyH.nil
      go_simp
      refine hKK.out _ _ (hS _ (bA (bA hD1 _) _)) (fun hHeld => ?_)
      clear hKK K
      try simp only [Act.put, List.setIfInBounds_toArray, List.set_cons_zero, List.set_cons_succ]
      refine wpAnyH_ready (rs := [47]) (by kernel_rfl) (by simp) ?_
      refine AllReadyH.cons rfl (fun K hKK => ?_) AllReadyH.nil
      go_simp
      refine (code_any [endI] (wx.heap.size + 1) ((wx.alloc (.cells #[.int .u8 1, .int .i64 0, .int .i64 0, .int .i64 0, .int .i64 0] 34)).alloc (.cells #[.int .u8 10, .int .i64 0, .int .i64 0, .int .i64 0, .int .i64 0] 34)) (blk_at (W := (wx.alloc (.cells #[.int .u8 1, .int .i64 0, .int .i64 0, .int .i64 0, .int .i64 0] 34))) (World.size_alloc _ _).symm)).mono ?_
      rintro e n1 ⟨g1, rfl, i1, hb1⟩
      have hB1 := below_next (bA (bA hD1 _) _) hb1 (Nat.le_refl _)
      have hq : Blk n1 wx.heap.size 34 #[.int .u8 1, .int .i64 0, .int .i64 0, .int .i64 0, .int .i64 0] := ((blk_new wx _ _).alloc _).on hb1
      refine hKK.out _ _ (hS _ hB1) (fun hHeld => ?_)
      clear hKK K
      try simp only [Act.put, List.setIfInBounds_toArray, List.set_cons_zero, List.set_cons_succ]
      refine wpAnyH_ready (rs := [50]) (by kernel_rfl) (by simp) ?_
      refine AllReadyH.cons rfl (fun K hKK => ?_) AllReadyH.nil
      go_simp
      refine (code_any [setI] wx.heap.size n1 hq).mono ?_
      rintro e n2 ⟨g2, rfl, i2, hb2⟩
      have hB2 := below_next hB1 hb2 (Nat.le_refl _)
      have i1' := i1.on hb2
      refine hKK.out _ _ (hS _ hB2) (fun hHeld => ?_)
      clear hKK K
      try simp only [Act.put, List.setIfInBounds_toArray, List.set_cons_zero, List.set_cons_succ]
      refine wpAnyH_ready (rs := [51]) (by kernel_rfl) (by simp) ?_
      refine AllReadyH.cons rfl (fun K hKK => ?_) AllReadyH.nil
      go_simp
      refine (same_not n2 i1' i2).mono ?_
      rintro e n4 ⟨rfl, hb4⟩
      have hB4 := below_next hB2 hb4 (Nat.le_refl _)
      refine hKK.out _ _ (hS _ hB4) (fun hHeld => ?_)
      clear hKK K
      try simp only [Act.put, List.setIfInBounds_toArray, List.set_cons_zero, List.set_cons_succ]
      refine takeD (i := 52) (d := some 110) (v := .bool true) (by kernel_rfl) (by kernel_rfl) (by kernel_rfl) (by kernel_rfl) (fun _ _ _ h => h) (fun oi h => ?_) hHeld ?_
      · simp only [List.getElem?_toArray, List.getElem?_cons_succ, List.getElem?_cons_zero, Option.some.injEq] at h
        subst h
        refine Or.inl ⟨by rfl, fun w' hSw => ?_⟩
        obtain ⟨x0, x1, x2, x3, x4, x5, x6, x7, x8, x9, x10, x11, x12, x13, x14⟩ := hSw
        go_simp
      try simp only [Act.put, List.setIfInBounds_toArray, List.set_cons_zero, List.set_cons_succ]
      refine takeD (i := 53) (d := some 111) (v := .bool true) (by kernel_rfl) (by kernel_rfl) (by kernel_rfl) (by kernel_rfl) (fun _ _ _ h => h) (fun oi h => ?_) hHeld ?_
      · simp only [List.getElem?_toArray, List.getElem?_cons_succ, List.getElem?_cons_zero, Option.some.injEq] at h
        subst h
        refine Or.inl ⟨by rfl, fun w' hSw => ?_⟩
        obtain ⟨x0, x1, x2, x3, x4, x5, x6, x7, x8, x9, x10, x11, x12, x13, x14⟩ := hSw
        go_simp
      try simp only [Act.put, List.setIfInBounds_toArray, List.set_cons_zero, List.set_cons_succ]
      refine rest _ _ ⟨.bool true, .agg #[.int .u8 10, .int .i64 0, .int .i64 0, .int .i64 0, .int .i64 0], .slice (some ⟨wx.heap.size + 1, 0, none⟩) 1 1, .agg #[.slice none 0 0, .slice (some ⟨g1, 0, none⟩) 1 1, .slice none 0 0], .agg #[.int .u8 1, .int .i64 0, .int .i64 0, .int .i64 0, .int .i64 0], .slice (some ⟨wx.heap.size, 0, none⟩) 1 1, .agg #[.slice none 0 0, .slice (some ⟨g2, 0, none⟩) 1 1, .slice none 0 0], .bool false, .bool true, ?_, hB4⟩
      simp only [Act.put, List.setIfInBounds_toArray, List.set_cons_zero, List.set_cons_succ]
  rintro a wz ⟨y102, y103, y104, y105, y106, y107, y108, y109, y110, rfl, hD2⟩
  clear hHeld hD1
  have hHeld := hS _ hD2
  simp only [Act.put, List.setIfInBounds_toArray, List.set_cons_zero, List.set_cons_succ]
  refine takeD (i := 54) (d := some 112) (v := .bool true) (by kernel_rfl) (by kernel_rfl) (by kernel_rfl) (by kernel_rfl) (fun _ _ _ h => h) (fun oi h => ?_) hHeld ?_
  · simp only [List.getElem?_toArray, List.getElem?_cons_succ, List.getElem?_cons_zero, Option.some.injEq] at h
    subst h
    refine Or.inl ⟨by rfl, fun w' hSw => ?_⟩
    obtain ⟨x0, x1, x2, x3, x4, x5, x6, x7, x8, x9, x10, x11, x12, x13, x14⟩ := hSw
    go_simp
  try simp only [Act.put, List.setIfInBounds_toArray, List.set_cons_zero, List.set_cons_succ]
  refine takeD (i := 55) (d := some 113) (v := .agg #[.int .u8 7, .int .i64 0, .int .i64 0, .int .i64 (-1), .int .i64 0]) (by kernel_rfl) (by kernel_rfl) (by kernel_rfl) (by kernel_rfl) (fun _ _ _ h => h) (fun oi h => ?_) hHeld ?_
  · simp only [List.getElem?_toArray, List.getElem?_cons_succ, List.getElem?_cons_zero, Option.some.injEq] at h
    subst h
    refine Or.inl ⟨by rfl, fun w' hSw => ?_⟩
    obtain ⟨x0, x1, x2, x3, x4, x5, x6, x7, x8, x9, x10, x11, x12, x13, x14⟩ := hSw
    go_simp
  try simp only [Act.put, List.setIfInBounds_toArray, List.set_cons_zero, List.set_cons_succ]
  refine wpAnyH_ready (rs := [56]) (by kernel_rfl) (by simp) ?_
  refine AllReadyH.cons rfl (fun K hKK => ?_) AllReadyH.nil
  go_simp
  refine hKK.out _ _ (hS _ (bA hD2 _)) (fun hHeld => ?_)
  clear hKK K
  try simp only [Act.put, List.setIfInBounds_toArray, List.set_cons_zero, List.set_cons_succ]
  refine wpAnyH_ready (rs := [57]) (by kernel_rfl) (by simp) ?_
  refine AllReadyH.cons rfl (fun K hKK => ?_) AllReadyH.nil
  go_simp
  refine (code_any [closeI] wz.heap.size (wz.alloc (.cells #[.int .u8 7, .int .i64 0, .int .i64 0, .int .i64 (-1), .int .i64 0] 34)) (blk_new wz _ _)).mono ?_
  rintro e n1 ⟨g1, rfl, i1, hb1⟩
  have hB1 := below_next (bA hD2 _) hb1 (Nat.le_refl _)
  refine hKK.out _ _ (hS _ hB1) (fun hHeld => ?_)
  clear hKK K
  try simp only [Act.put, List.setIfInBounds_toArray, List.set_cons_zero, List.set_cons_succ]
  refine wpAnyH_ready (rs := [58]) (by kernel_rfl) (by simp) ?_
  refine AllReadyH.cons rfl (fun K hKK => ?_) AllReadyH.nil
  go_simp
  refine (uses_one g1 wz.heap.size n1 i1).mono ?_
  rintro e n2 ⟨rfl, hb2⟩
  have hB2 := below_next hB1 hb2 (Nat.le_refl _)
  refine hKK.out _ _ (hS _ hB2) (fun hHeld => ?_)
  clear hKK K
  try simp only [Act.put, List.setIfInBounds_toArray, List.set_cons_zero, List.set_cons_succ]
  refine takeD (i := 59) (d := some 117) (v := .bool true) (by kernel_rfl) (by kernel_rfl) (by kernel_rfl) (by kernel_rfl) (fun _ _ _ h => h) (fun oi h => ?_) hHeld ?_
  · simp only [List.getElem?_toArray, List.getElem?_cons_succ, List.getElem?_cons_zero, Option.some.injEq] at h
    subst h
    refine Or.inl ⟨by rfl, fun w' hSw => ?_⟩
    obtain ⟨x0, x1, x2, x3, x4, x5, x6, x7, x8, x9, x10, x11, x12, x13, x14⟩ := hSw
    go_simp
  try simp only [Act.put, List.setIfInBounds_toArray, List.set_cons_zero, List.set_cons_succ]
  refine takeD (i := 60) (d := some 118) (v := .bool true) (by kernel_rfl) (by kernel_rfl) (by kernel_rfl) (by kernel_rfl) (fun _ _ _ h => h) (fun oi h => ?_) hHeld ?_
  · simp only [List.getElem?_toArray, List.getElem?_cons_succ, List.getElem?_cons_zero, Option.some.injEq] at h
    subst h
    refine Or.inl ⟨by rfl, fun w' hSw => ?_⟩
    obtain ⟨x0, x1, x2, x3, x4, x5, x6, x7, x8, x9, x10, x11, x12, x13, x14⟩ := hSw
    go_simp
  try simp only [Act.put, List.setIfInBounds_toArray, List.set_cons_zero, List.set_cons_succ]
  refine takeD (i := 61) (d := some 0) (v := .bool true) (by kernel_rfl) (by kernel_rfl) (by kernel_rfl) (by kernel_rfl) (fun _ _ _ h => h) (fun oi h => ?_) hHeld ?_
  · simp only [List.getElem?_toArray, List.getElem?_cons_succ, List.getElem?_cons_zero, Option.some.injEq] at h
    subst h
    refine Or.inl ⟨by rfl, fun w' hSw => ?_⟩
    obtain ⟨x0, x1, x2, x3, x4, x5, x6, x7, x8, x9, x10, x11, x12, x13, x14⟩ := hSw
    go_simp
  try simp only [Act.put, List.setIfInBounds_toArray, List.set_cons_zero, List.set_cons_succ]
  refine wpAnyH_done (by kernel_rfl) ?_ _
  simp only [PanOnly]
  go_wp2_with fail
  go_ret
  exact ⟨rfl, Bf.trans (hB2.mono Bf.size)⟩
end Go.Proofs.Ytbbgeopgigeioaa
