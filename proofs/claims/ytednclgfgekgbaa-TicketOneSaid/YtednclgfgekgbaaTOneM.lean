/-
  What the law TicketOne holds in memory at the head of a round.
-/
import Derived.Maps.AppendAt
import Derived.Test.YtednclgfgekgbaaTLine
namespace Go.Proofs.Ytednclgfgekgbaa
open Go.RowKit

/-! ### The second lock of two -/
theorem in2 : inRow 2 1 = true := by decide
theorem nth2 (a b : Nat) : nth [0, 0, a, b] (nextAt 0 (1 : Int).toNat) = a := rfl
theorem nth3 (a b : Nat) : nth [0, 0, a, b] (servedAt 0 (1 : Int).toNat) = b := rfl
theorem drawE4 (a b : Nat) : drawE 0 2 [0, 0, a, b] 1 = tick a := by rw [drawE, in2, if_pos rfl, nth2]
theorem drawV4 (a b : Nat) : drawV 0 2 [0, 0, a, b] 1 = [0, 0, up a, b] := by rw [drawV, in2, if_pos rfl, nth2]; rfl
theorem giveV4 (a b : Nat) : giveV 0 2 [0, 0, a, b] 1 = [0, 0, a, up b] := by rw [giveV, in2, if_pos rfl, nth3]; rfl
theorem mineE4 (a b t : Nat) : mineE 0 2 [0, 0, a, b] 1 t = decide (tick b = t) := by rw [mineE, in2, Bool.true_and, nth3]
theorem waitE4 (a b : Nat) : waitE 0 2 [0, 0, a, b] 1 = tick (minus a b) := by rw [waitE, in2, if_pos rfl, nth2, nth3]
theorem freeE4 (a b : Nat) : freeE 0 2 [0, 0, a, b] 1 = decide (tick (minus a b) = 0) := by rw [freeE, in2, Bool.true_and, waitE4]
theorem draw4 {L P Q B V a b c : Nat} (w : World) (h : Lks w L P Q B 0 2) (hC : Cels w B V [0, 0, a, b] c) (ha : a < 18446744073709551615) :
    Calls Try.prog 9 #[.pointer (some ⟨L, 0, none⟩), .int .i64 1] w fun e w' => e = .returned (.int .u16 (tick a : Int)) ∧ (∃ c', Cels w' B V [0, 0, a + 1, b] c') ∧ But [B, V] w w' :=
  (draw_at w h hC (by simp) (Lib.hid ⟨by rw [drawE4], by rw [drawV4, up_eq ha], rfl⟩)).mono fun _ _ ⟨h1, h2, h3⟩ => ⟨h1, ⟨_, h2⟩, h3⟩
theorem give4 {L P Q B V a b c : Nat} (w : World) (h : Lks w L P Q B 0 2) (hC : Cels w B V [0, 0, a, b] c) (hb : b < 18446744073709551615) :
    Calls Try.prog 7 #[.pointer (some ⟨L, 0, none⟩), .int .i64 1] w fun e w' => e = .returned (.tuple #[]) ∧ (∃ c', Cels w' B V [0, 0, a, b + 1] c') ∧ But [B, V] w w' :=
  (give_at w h hC (by simp) (Lib.hid ⟨by rw [giveV4, up_eq hb], rfl⟩)).mono fun _ _ ⟨h1, h2, h3⟩ => ⟨h1, ⟨_, h2⟩, h3⟩
theorem mine4 {L P Q B V a b c : Nat} {x : Bool} (t : Nat) (w : World) (h : Lks w L P Q B 0 2) (hC : Cels w B V [0, 0, a, b] c) (hx : Hid (decide (tick b = t) = x)) :
    Calls Try.prog 10 #[.pointer (some ⟨L, 0, none⟩), .int .i64 1, .int .u16 (t : Int)] w fun e w' => e = .returned (.bool x) ∧ (∃ c', Cels w' B V [0, 0, a, b] c') ∧ But [B, V] w w' := by
  obtain rfl := hx.out
  exact (mine_at w h hC (by simp) (Lib.hid ⟨rfl, mineE4 a b t, rfl⟩)).mono fun _ _ ⟨h1, h2, h3⟩ => ⟨h1, ⟨_, h2⟩, h3⟩
theorem wait4 {L P Q B V a b c n : Nat} (w : World) (h : Lks w L P Q B 0 2) (hC : Cels w B V [0, 0, a, b] c) (hx : Hid (tick (minus a b) = n)) :
    Calls Try.prog 12 #[.pointer (some ⟨L, 0, none⟩), .int .i64 1] w fun e w' => e = .returned (.int .i64 (n : Int)) ∧ ∃ m, w' = w.drewN m := by
  obtain rfl := hx.out
  exact wait_at w h hC (by simp) (Lib.hid (by rw [waitE4]))
theorem free4 {L P Q B V a b c : Nat} {x : Bool} (w : World) (h : Lks w L P Q B 0 2) (hC : Cels w B V [0, 0, a, b] c) (hx : Hid (decide (tick (minus a b) = 0) = x)) :
    Calls Try.prog 11 #[.pointer (some ⟨L, 0, none⟩), .int .i64 1] w fun e w' => e = .returned (.bool x) ∧ ∃ m, w' = w.drewN m := by
  obtain rfl := hx.out
  exact free_at w h hC (by simp) (Lib.hid (freeE4 a b))
theorem infoI64 : (Try.prog.info? 3).map (fun i => (i.zero, i.size, i.bytes)) = some (some (.int .i64 0), 1, 8) := by kernel_rfl

theorem size_set2 (W : World) (p q : Addr) (u v : Value) : ((W.setCell p u).setCell q v).heap.size = W.heap.size := by simp [World.setCell]
theorem cell_new2 (W : World) (p q : Addr) (u v x : Value) (t : TypeId) : ∀ (j : Nat) (y : Value), [x][j]? = some y → (((W.setCell p u).setCell q v).alloc (.cells #[x] t)).cell? (({ block := W.heap.size, off := 0 } : Addr).add j) = some y := by
  have := cell_one_new ((W.setCell p u).setCell q v) x t
  rw [size_set2] at this
  exact this

/-! ### The seven -/
/-- Block A is what the seven are about. -/
def Who (W : World) (A : Nat) (st tk : Nat → Nat) : Prop :=
  ∃ cs, W.heap[A]? = some (.cells cs 55 (0, 0)) ∧ cs.size = 14 ∧ ∀ k, k < 7 → cs[k * 2]? = some (.int .i64 (st k : Int)) ∧ cs[k * 2 + 1]? = some (.int .u16 (tk k : Int))
theorem Who.lt {W : World} {A : Nat} {st tk : Nat → Nat} (h : Who W A st tk) : A < W.heap.size := by obtain ⟨_, h, _⟩ := h; exact (Array.getElem?_eq_some_iff.1 h).1
theorem Who.cellS {W : World} {A : Nat} {st tk : Nat → Nat} (h : Who W A st tk) {k : Nat} (hk : k < 7) : W.cell? ⟨A, k * 2, none⟩ = some (.int .i64 (st k : Int)) := by
  obtain ⟨cs, h1, _, h3⟩ := h; simp [World.cell?, h1, (h3 k hk).1]
theorem Who.cellT {W : World} {A : Nat} {st tk : Nat → Nat} (h : Who W A st tk) {k : Nat} (hk : k < 7) : W.cell? ⟨A, k * 2 + 1, none⟩ = some (.int .u16 (tk k : Int)) := by
  obtain ⟨cs, h1, _, h3⟩ := h; simp [World.cell?, h1, (h3 k hk).2]
theorem Who.frozen {W : World} {A : Nat} {st tk : Nat → Nat} (h : Who W A st tk) (k : Nat) : W.frozen? ⟨A, k, none⟩ = false := by
  obtain ⟨cs, h1, _, _⟩ := h; simp [World.frozen?, h1]
theorem Who.of_block {W W' : World} {A : Nat} {st tk : Nat → Nat} (h : Who W A st tk) (hb : W'.heap[A]? = W.heap[A]?) : Who W' A st tk := by
  obtain ⟨cs, h1, h2, h3⟩ := h; exact ⟨cs, hb.trans h1, h2, h3⟩
theorem Who.set {W : World} {A : Nat} {st tk : Nat → Nat} (h : Who W A st tk) {n : Nat} (hn : n < 7) (s t : Nat) : Who ((W.setCell ⟨A, n * 2, none⟩ (.int .i64 (s : Int))).setCell ⟨A, n * 2 + 1, none⟩ (.int .u16 (t : Int))) A (upd st n s) (upd tk n t) := by
  obtain ⟨cs, h1, h2, h3⟩ := h
  refine ⟨_, heap_set_same _ (heap_set_same _ h1), by simpa using h2, fun k hk => ?_⟩
  obtain ⟨h4, h5⟩ := h3 k hk
  by_cases e : k = n
  · subst e
    rw [upd_same, upd_same]
    simp [Array.getElem?_setIfInBounds, h2]; omega
  · rw [upd_ne _ _ e, upd_ne _ _ e]
    have : ¬ n * 2 = k * 2 := by omega
    have : ¬ n * 2 + 1 = k * 2 := by omega
    have : ¬ n * 2 = k * 2 + 1 := by omega
    have : ¬ n * 2 + 1 = k * 2 + 1 := by omega
    simp [*]

def I64N (xs : List Nat) : List Value := xs.map fun (x : Nat) => Value.int .i64 (x : Int)
theorem I64N_snoc (xs : List Nat) (x : Nat) : I64N (xs ++ [x]) = I64N xs ++ [.int .i64 (x : Int)] := by simp [I64N]
theorem I64N_len (xs : List Nat) : (I64N xs).length = xs.length := by simp [I64N]

theorem row_some {W : World} {base n cap : Nat} {pa : Option Addr} {xs : List Value} (h : W.ownsRow base 3 1 (.slice pa n cap) n xs) (hn : 0 < n) : ∃ g, pa = some ⟨g, 0, none⟩ := by
  rcases h.2 with ⟨_, h0⟩ | ⟨g, c, cur, he, _⟩
  · omega
  · simp only [Value.slice.injEq] at he; exact ⟨g, he.1⟩
theorem row_cell {W : World} {base g cap j : Nat} {D : List Nat} (h : W.ownsRow base 3 1 (.slice (some ⟨g, 0, none⟩) D.length cap) D.length (I64N D)) (hj : j < D.length) : W.cell? ⟨g, j, none⟩ = some (.int .i64 (nth D j : Int)) := by
  have := h.cellAt j (by omega)
  rw [show (I64N D)[j]? = some (.int .i64 (nth D j : Int)) by simp [I64N, nth, List.getElem?_eq_getElem hj]] at this
  by_cases h0 : j = 0
  · subst h0; simpa [Addr.add] using this
  · simpa [Addr.add, h0] using this

/-- All that lies in memory: cells, locks, the seven, who drew, and who had the lock. -/
structure Lay (w0 W : World) (L P Q B V A a b : Nat) (dv hv : Value) (st tk : Nat → Nat) (D T : List Nat) : Prop where
  lks : Lks W L P Q B 0 2
  cels : ∃ c, Cels W B V [0, 0, a, b] c
  who : Who W A st tk
  drew : W.ownsRow w0.heap.size 3 1 dv D.length (I64N D)
  had : W.ownsRow w0.heap.size 3 1 hv T.length (I64N T)
  apart : ∀ g, dv.ownBlock = some g → hv.ownBlock ≠ some g
  but : But [] w0 W
  own : w0.heap.size ≤ B ∧ w0.heap.size ≤ V ∧ w0.heap.size ≤ A
  boxD : ∀ g, dv.ownBlock = some g → g ≠ P ∧ g ≠ Q
  boxH : ∀ g, hv.ownBlock = some g → g ≠ P ∧ g ≠ Q

theorem Who.ne {W : World} {A : Nat} {st tk : Nat → Nat} (h : Who W A st tk) {k : Nat} {cs : Array Value} {t : TypeId} {z : Nat × Nat} (hk : W.heap[k]? = some (.cells cs t z)) (ht : t ≠ 55) : A ≠ k := by
  obtain ⟨ds, h1, _⟩ := h; exact type_ne h1 hk ht.symm
theorem row_own {W : World} {base n : Nat} {e : TypeId} {v : Value} {xs : List Value} (h : W.ownsRow base e 1 v n xs) {g : Nat} (hg : v.ownBlock = some g) : base ≤ g ∧ g < W.heap.size := by
  obtain ⟨cs, z, hb⟩ := row_block h hg
  refine ⟨?_, (Array.getElem?_eq_some_iff.1 hb).1⟩
  rcases h.2 with ⟨rfl, _⟩ | ⟨g', cap, cur, rfl, hle, _⟩
  · simp [Value.ownBlock] at hg
  · obtain rfl : g' = g := by simpa [Value.ownBlock] using hg
    exact hle

theorem Lay.step {w0 W W' : World} {L P Q B V A a b a' b' c' : Nat} {dv hv : Value} {st tk : Nat → Nat} {D T : List Nat} (h : Lay w0 W L P Q B V A a b dv hv st tk D T) (hC' : Cels W' B V [0, 0, a', b'] c') (hg : But [B, V] W W') : Lay w0 W' L P Q B V A a' b' dv hv st tk D T := by
  obtain ⟨c, hC⟩ := h.cels
  refine ⟨h.lks.cels hC hg, ⟨_, hC'⟩, h.who.of_block (hg.block A h.who.lt ?_), row_cels h.drew hC hg (by decide) (by decide), row_cels h.had hC hg (by decide) (by decide), h.apart, h.but.own hg h.own.1 h.own.2.1, h.own, h.boxD, h.boxH⟩
  simpa using ⟨h.who.ne hC.head (by decide), h.who.ne hC.row (by decide)⟩

theorem Lay.later {w0 W : World} {L P Q B V A a b : Nat} {dv hv : Value} {st tk : Nat → Nat} {D T : List Nat} (h : Lay w0 W L P Q B V A a b dv hv st tk D T) (m : Nat) : Lay w0 (W.drewN m) L P Q B V A a b dv hv st tk D T := by
  obtain ⟨c, hC⟩ := h.cels
  exact ⟨h.lks.drewN m, ⟨c, hC.drewN m⟩, h.who, h.drew, h.had, h.apart, h.but.drewN m, h.own, h.boxD, h.boxH⟩

theorem Lay.set {w0 W : World} {L P Q B V A a b : Nat} {dv hv : Value} {st tk : Nat → Nat} {D T : List Nat} (h : Lay w0 W L P Q B V A a b dv hv st tk D T) {n : Nat} (hn : n < 7) (s t : Nat) :
    Lay w0 ((W.setCell ⟨A, n * 2, none⟩ (.int .i64 (s : Int))).setCell ⟨A, n * 2 + 1, none⟩ (.int .u16 (t : Int))) L P Q B V A a b dv hv (upd st n s) (upd tk n t) D T := by
  obtain ⟨c, hC⟩ := h.cels
  have hg : But [A] W ((W.setCell ⟨A, n * 2, none⟩ (.int .i64 (s : Int))).setCell ⟨A, n * 2 + 1, none⟩ (.int .u16 (t : Int))) := ((But.refl [A] W).set (.inl (by simp)) _).set (.inl (by simp)) _
  have hrow : ∀ {v : Value} {xs : List Nat}, W.ownsRow w0.heap.size 3 1 v xs.length (I64N xs) → ∀ g, v.ownBlock = some g → g ∉ [A] := fun hr g e => by
    obtain ⟨cs, z, hb⟩ := row_block hr e
    simpa using (h.who.ne hb (by decide)).symm
  refine ⟨h.lks.but hg ?_ ?_ ?_, ⟨c, hC.but hg ?_ ?_⟩, h.who.set hn s t, hg.row h.drew (hrow h.drew), hg.row h.had (hrow h.had), h.apart, h.but.trans hg ?_, h.own, h.boxD, h.boxH⟩
  · simpa using (h.who.ne h.lks.head (by decide)).symm
  · simpa using (h.who.ne h.lks.boxN (by decide)).symm
  · simpa using (h.who.ne h.lks.boxB (by decide)).symm
  · simpa using (h.who.ne hC.head (by decide)).symm
  · simpa using (h.who.ne hC.row (by decide)).symm
  · have := h.own.2.2; simp; omega

theorem Lay.putD {w0 W W' : World} {L P Q B V A a b x : Nat} {dv hv v' : Value} {st tk : Nat → Nat} {D T : List Nat} {tmp : Obj} (h : Lay w0 W L P Q B V A a b dv hv st tk D T)
    (ho : W'.ownsRow w0.heap.size 3 1 v' (D.length + 1) (I64N D ++ [.int .i64 (x : Int)])) (hg : (W.alloc tmp).grownBy W' dv.ownBlock) (hat : v'.ownBlock = dv.ownBlock ∨ v'.ownBlock = some (W.heap.size + 1)) :
    Lay w0 W' L P Q B V A a b v' hv st tk (D ++ [x]) T := by
  obtain ⟨c, hC⟩ := h.cels
  have hg' := row_grown hg
  have hne : ∀ {k : Nat} {cs : Array Value} {t : TypeId} {z : Nat × Nat}, W.heap[k]? = some (.cells cs t z) → t ≠ 3 → some k ≠ dv.ownBlock := fun hk ht e => by
    obtain ⟨ds, y, hb⟩ := row_block h.drew e.symm
    exact type_ne hk hb ht rfl
  have hgrow : ∀ g, v'.ownBlock = some g → dv.ownBlock = some g ∨ g = W.heap.size + 1 := fun g e => by
    rcases hat with h1 | h1
    · exact .inl (h1 ▸ e)
    · rw [h1] at e; exact .inr (Option.some.inj e).symm
  refine ⟨⟨(hg'.block L h.lks.ltL (hne h.lks.head (by decide))).trans h.lks.head, (hg'.block P h.lks.boxN.lt fun e => (h.boxD P e.symm).1 rfl).trans h.lks.boxN, (hg'.block Q h.lks.boxB.lt fun e => (h.boxD Q e.symm).2 rfl).trans h.lks.boxB, h.lks.most, h.lks.room⟩,
    ⟨c, hC.of_blocks (hg'.block B hC.ltB (hne hC.head (by decide))) (hg'.block V hC.ltV (hne hC.row (by decide)))⟩,
    h.who.of_block (hg'.block A h.who.lt ?_), ?_, h.had.kept hg' ?_, ?_, row_but h.but h.drew hg', h.own, ?_, h.boxH⟩
  · obtain ⟨cs, h1, _⟩ := h.who
    exact hne h1 (by decide)
  · rw [List.length_append, List.length_singleton, I64N_snoc]; exact ho
  · cases hb : hv.ownBlock with
    | none => exact .inl rfl
    | some g => exact .inr fun e => h.apart g e.symm hb
  · intro g e1 e2
    rcases hgrow g e1 with e | e
    · exact h.apart g e e2
    · have := (row_own h.had e2).2; omega
  · intro g e1
    rcases hgrow g e1 with e | e
    · exact h.boxD g e
    · have := h.lks.boxN.lt; have := h.lks.boxB.lt; exact ⟨by omega, by omega⟩

theorem Lay.putH {w0 W W' : World} {L P Q B V A a b x : Nat} {dv hv v' : Value} {st tk : Nat → Nat} {D T : List Nat} {tmp : Obj} (h : Lay w0 W L P Q B V A a b dv hv st tk D T)
    (ho : W'.ownsRow w0.heap.size 3 1 v' (T.length + 1) (I64N T ++ [.int .i64 (x : Int)])) (hg : (W.alloc tmp).grownBy W' hv.ownBlock) (hat : v'.ownBlock = hv.ownBlock ∨ v'.ownBlock = some (W.heap.size + 1)) :
    Lay w0 W' L P Q B V A a b dv v' st tk D (T ++ [x]) := by
  have h' : Lay w0 W L P Q B V A a b hv dv st tk T D := ⟨h.lks, h.cels, h.who, h.had, h.drew, fun g h1 h2 => h.apart g h2 h1, h.but, h.own, h.boxH, h.boxD⟩
  have h2 := h'.putD ho hg hat
  exact ⟨h2.lks, h2.cels, h2.who, h2.had, h2.drew, fun g h1 h3 => h2.apart g h3 h1, h2.but, h2.own, h2.boxH, h2.boxD⟩
theorem Lay.first {w0 W : World} {L P Q B V a b c : Nat} (hL : Lks W L P Q B 0 2) (hC : Cels W B V [0, 0, a, b] c) (hz : But [] w0 W) (hB : w0.heap.size ≤ B) (hV : w0.heap.size ≤ V) :
    Lay w0 (W.alloc (.cells #[.int .i64 0, .int .u16 0, .int .i64 0, .int .u16 0, .int .i64 0, .int .u16 0, .int .i64 0, .int .u16 0, .int .i64 0, .int .u16 0, .int .i64 0, .int .u16 0, .int .i64 0, .int .u16 0] 55)) L P Q B V W.heap.size a b (.slice none 0 0) (.slice none 0 0) (fun _ => 0) (fun _ => 0) [] [] := by
  have hg := (But.refl [] W).alloc (.cells #[.int .i64 0, .int .u16 0, .int .i64 0, .int .u16 0, .int .i64 0, .int .u16 0, .int .i64 0, .int .u16 0, .int .i64 0, .int .u16 0, .int .i64 0, .int .u16 0, .int .i64 0, .int .u16 0] 55)
  refine ⟨hL.but hg (by simp) (by simp) (by simp), ⟨c, hC.but hg (by simp) (by simp)⟩, ⟨_, World.alloc_heap_new W _, rfl, fun k hk => ?_⟩, World.ownsRow_nil _ _ _ _, World.ownsRow_nil _ _ _ _, fun g h => by simp [Value.ownBlock] at h, hz.next hg, ⟨hB, hV, hz.size⟩, fun g h => by simp [Value.ownBlock] at h, fun g h => by simp [Value.ownBlock] at h⟩
  match k, hk with
  | 0, _ => exact ⟨rfl, rfl⟩
  | 1, _ => exact ⟨rfl, rfl⟩
  | 2, _ => exact ⟨rfl, rfl⟩
  | 3, _ => exact ⟨rfl, rfl⟩
  | 4, _ => exact ⟨rfl, rfl⟩
  | 5, _ => exact ⟨rfl, rfl⟩
  | 6, _ => exact ⟨rfl, rfl⟩
end Go.Proofs.Ytednclgfgekgbaa
