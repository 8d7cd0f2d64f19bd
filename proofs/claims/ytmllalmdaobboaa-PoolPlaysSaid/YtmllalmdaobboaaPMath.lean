/-
  Pools in memory: a block of a row, a first one and a count, and the row's block: slots of seven cells; pure.
-/
import Derived.Lib.Hide
import Derived.Test.YtmllalmdaobboaaRows
import Derived.WalkKit
import Derived.WalkLawsBesides
import Derived.WalkSpells
import Derived.Outline
import Derived.Below
import Derived.RangeFuncBox
import Derived.BigQuiet
import Derived.OwnWalk
import Derived.StillTailTactics
namespace Go.Proofs.Ytmllalmdaobboaa
open Go.RowKit

/-! ### What may have been turned: the blocks of a list, and new ones -/
structure But (S : List Nat) (w w' : World) : Prop where
  os : w'.os = w.os
  tape : w'.tape = w.tape
  output : w'.output = w.output
  size : w.heap.size ≤ w'.heap.size
  block : ∀ k, k < w.heap.size → k ∉ S → w'.heap[k]? = w.heap[k]?

theorem But.refl (S : List Nat) (w : World) : But S w w := ⟨rfl, rfl, rfl, Nat.le_refl _, fun _ _ _ => rfl⟩
theorem But.mono {S T : List Nat} {w w' : World} (h : But S w w') (hS : ∀ k ∈ S, k ∈ T) : But T w w' := ⟨h.os, h.tape, h.output, h.size, fun k hk hn => h.block k hk (fun e => hn (hS k e))⟩
theorem But.trans {S T : List Nat} {a b c : World} (h : But S a b) (k : But T b c) (hT : ∀ x ∈ T, x < a.heap.size → x ∈ S) : But S a c :=
  ⟨k.os.trans h.os, k.tape.trans h.tape, k.output.trans h.output, Nat.le_trans h.size k.size,
   fun i hi hn => (k.block i (Nat.lt_of_lt_of_le hi h.size) (fun e => hn (hT i e hi))).trans (h.block i hi hn)⟩
theorem But.next {S : List Nat} {a b c : World} (h : But S a b) (k : But S b c) : But S a c := h.trans k (fun _ h _ => h)
theorem But.own {S T : List Nat} {a b c : World} (h : But S a b) (k : But T b c) (hT : ∀ x ∈ T, a.heap.size ≤ x) : But S a c := h.trans k (fun x hx h0 => by have := hT x hx; omega)
theorem But.of_none {w w' : World} (h : w.grownBy w' none) (S : List Nat) : But S w w' := ⟨h.os, h.tape, h.output, h.size, fun k hk _ => h.block k hk (by simp)⟩
theorem But.of_some {w w' : World} {B : Nat} (h : w.grownBy w' (some B)) {S : List Nat} (hB : B ∈ S) : But S w w' := ⟨h.os, h.tape, h.output, h.size, fun k hk hn => h.block k hk (fun e => by cases e; exact hn hB)⟩
theorem But.drewN {S : List Nat} {w w' : World} (h : But S w w') (n : Nat) : But S w (w'.drewN n) := ⟨h.os, h.tape, h.output, h.size, h.block⟩
theorem But.drew {S : List Nat} {w w' : World} (h : But S w w') : But S w w'.drew := ⟨h.os, h.tape, h.output, h.size, h.block⟩
theorem But.alloc {S : List Nat} {w w' : World} (h : But S w w') (o : Obj) : But S w (w'.alloc o) := h.trans (.of_none (World.grownBy_alloc w' o none) []) (by simp)
theorem But.set {S : List Nat} {w w' : World} (h : But S w w') {p : Addr} (hp : p.block ∈ S ∨ w.heap.size ≤ p.block) (v : Value) : But S w (w'.setCell p v) :=
  ⟨h.os, h.tape, h.output, by simpa [World.setCell] using h.size, fun k hk hn => (Below.heap_setCell w' p v k (fun e => by subst e; rcases hp with hp | hp; exact hn hp; omega)).trans (h.block k hk hn)⟩
theorem But.cell {S : List Nat} {w w' : World} (h : But S w w') {p : Addr} {v : Value} (hv : w.cell? p = some v) (hn : p.block ∉ S) : w'.cell? p = some v :=
  (World.cell?_of_block (w := w) (h.block p.block (World.block_lt_of_cell? w p hv) hn)).trans hv
theorem But.frozen {S : List Nat} {w w' : World} (h : But S w w') {p : Addr} {b : Bool} (hv : w.frozen? p = b) (hl : p.block < w.heap.size) (hn : p.block ∉ S) : w'.frozen? p = b :=
  (World.frozen?_of_block (w := w) (h.block p.block hl hn)).trans hv
theorem But.boxed {S : List Nat} {w w' : World} (h : But S w w') {B : Nat} {t : TypeId} {v : Value} (hb : Boxed w B t v) (hn : B ∉ S) : Boxed w' B t v := (h.block B hb.lt hn).trans hb
theorem But.below {S : List Nat} {w w' : World} (h : But S w w') {n : Nat} (hn : n ≤ w.heap.size) (hS : ∀ k ∈ S, n ≤ k) : Below n w w' :=
  ⟨h.os, h.tape, h.output, h.size, fun k hk => h.block k (Nat.lt_of_lt_of_le hk hn) (fun e => Nat.lt_irrefl _ (Nat.lt_of_lt_of_le hk (hS k e)))⟩
theorem But.of_below {w w' : World} (h : Below w.heap.size w w') (S : List Nat) : But S w w' := ⟨h.os, h.tape, h.output, h.size, fun k hk _ => h.block k hk⟩
theorem But.row {S : List Nat} {w w' : World} (h : But S w w') {base : Nat} {e : TypeId} {size : Nat} {v : Value} {n : Nat} {xs : List Value} (hr : w.ownsRow base e size v n xs) (hn : ∀ g, v.ownBlock = some g → g ∉ S) : w'.ownsRow base e size v n xs := by
  refine ⟨hr.1, ?_⟩
  rcases hr.2 with h0 | ⟨g, cap, cur, rfl, hg, hb, r⟩
  · exact .inl h0
  · exact .inr ⟨g, cap, cur, rfl, hg, (h.block g (Array.getElem?_eq_some_iff.1 hb).1 (hn g rfl)).trans hb, r⟩
theorem type_ne {W : World} {A B : Nat} {cs ds : Array Value} {t u : TypeId} {z y : Nat × Nat} (h : W.heap[A]? = some (.cells cs t z)) (k : W.heap[B]? = some (.cells ds u y)) (hne : t ≠ u) : A ≠ B := by
  rintro rfl
  have := h.symm.trans k
  simp only [Option.some.injEq, Obj.cells.injEq] at this
  exact hne this.2.1
theorem heap_set_same {W : World} {B k : Nat} {cs : Array Value} {t : TypeId} {z : Nat × Nat} (v : Value) (h : W.heap[B]? = some (.cells cs t z)) : (W.setCell ⟨B, k, none⟩ v).heap[B]? = some (.cells (cs.setIfInBounds k v) t z) := by
  obtain ⟨hlt, hk⟩ := Array.getElem?_eq_some_iff.1 h
  show (W.heap.modify B _)[B]? = _
  rw [Array.getElem?_eq_getElem (by rw [Array.size_modify]; exact hlt), Array.getElem_modify_self, hk]
  rfl

/-! ### Rows of blocks of cells -/
theorem flat_len {α : Type} (f : α → List Value) (n : Nat) (hf : ∀ x, (f x).length = n) (l : List α) : (l.flatMap f).length = l.length * n := by
  induction l with
  | nil => simp
  | cons x t ih => rw [List.flatMap_cons, List.length_append, hf, ih, List.length_cons, Nat.add_mul]; omega
theorem flat_get {α : Type} (f : α → List Value) (n : Nat) (hf : ∀ x, (f x).length = n) (l : List α) (i j : Nat) (hj : j < n) : (l.flatMap f)[i * n + j]? = (l[i]?).bind fun x => (f x)[j]? := by
  induction l generalizing i with
  | nil => simp
  | cons x t ih =>
    rw [List.flatMap_cons]
    cases i with
    | zero => rw [Nat.zero_mul, Nat.zero_add, List.getElem?_append_left (by rw [hf]; exact hj)]; rfl
    | succ i =>
      rw [List.getElem?_append_right (by rw [hf, Nat.add_mul]; omega), hf, show (i + 1) * n + j - n = i * n + j by rw [Nat.add_mul]; omega, ih]
      rfl

/-- Block V is a row of such blocks of n cells, of that type, with room for cap. -/
def RowOf {α : Type} (f : α → List Value) (n : Nat) (T : TypeId) (W : World) (V cap : Nat) (l : List α) : Prop :=
  ∃ cur : Array Value, W.heap[V]? = some (.cells cur T (0, 0)) ∧ cur.size = cap * n ∧ l.length ≤ cap ∧ cap ≤ maxLen ∧ ∀ (i : Nat) (x : α), l[i]? = some x → ∀ j, j < n → cur[i * n + j]? = (f x)[j]?

section
variable {α : Type} {f : α → List Value} {n : Nat} {T : TypeId} {W W' : World} {V cap : Nat} {l : List α}
theorem RowOf.lt (h : RowOf f n T W V cap l) : V < W.heap.size := by obtain ⟨_, h, _⟩ := h; exact (Array.getElem?_eq_some_iff.1 h).1
theorem RowOf.of_block (h : RowOf f n T W V cap l) (hb : W'.heap[V]? = W.heap[V]?) : RowOf f n T W' V cap l := by
  obtain ⟨cur, h1, r⟩ := h; exact ⟨cur, hb.trans h1, r⟩
theorem RowOf.le (h : RowOf f n T W V cap l) : l.length ≤ cap := by obtain ⟨_, _, _, h, _⟩ := h; exact h
theorem RowOf.but (h : RowOf f n T W V cap l) {S : List Nat} (hb : But S W W') (hn : V ∉ S) : RowOf f n T W' V cap l := h.of_block (hb.block V h.lt hn)
theorem RowOf.block (h : RowOf f n T W V cap l) : ∃ cur z, W.heap[V]? = some (.cells cur T z) := by obtain ⟨cur, h1, _⟩ := h; exact ⟨_, _, h1⟩
theorem RowOf.frozen (h : RowOf f n T W V cap l) (k : Nat) : W.frozen? ⟨V, k, none⟩ = false := by obtain ⟨cur, h1, _⟩ := h; simp [World.frozen?, h1]
theorem RowOf.cell (h : RowOf f n T W V cap l) {i : Nat} {x : α} (hx : l[i]? = some x) {j : Nat} (hj : j < n) : W.cell? ⟨V, i * n + j, none⟩ = (f x)[j]? := by
  obtain ⟨cur, h1, _, _, _, h2⟩ := h; simp [World.cell?, h1, h2 i x hx j hj]
theorem RowOf.of_owns (hf : ∀ x, (f x).length = n) {base : Nat} {v : Value} (h : W.ownsRow base T n v l.length (l.flatMap f)) {g cap : Nat} (hv : v = .slice (some ⟨g, 0, none⟩) l.length cap) : RowOf f n T W g cap l := by
  subst hv
  rcases h.2 with ⟨h0, _⟩ | ⟨g', c, cur, he, _, hb, h1, h2, h3, h4⟩
  · cases h0
  · simp only [Value.slice.injEq, Option.some.injEq, Addr.mk.injEq, and_true, true_and] at he
    obtain ⟨rfl, rfl⟩ := he
    refine ⟨cur, hb, h3, h1, h2, fun i x hx j hj => ?_⟩
    have hi : i < l.length := (List.getElem?_eq_some_iff.1 hx).1
    have hlt : i * n + j < l.length * n := by
      have : (i + 1) * n ≤ l.length * n := Nat.mul_le_mul_right n hi
      rw [Nat.add_mul] at this; omega
    have h5 := flat_get f n hf l i j hj
    rw [← h4, List.getElem?_take_of_lt hlt, hx] at h5
    simpa using h5
theorem RowOf.list (hf : ∀ x, (f x).length = n) (h : RowOf f n T W V cap l) : ∀ j u, (l.flatMap f)[j]? = some u → W.cell? ((⟨V, 0, none⟩ : Addr).add j) = some u := by
  intro j u hu
  have hadd : (⟨V, 0, none⟩ : Addr).add j = ⟨V, j, none⟩ := by unfold Addr.add; split <;> simp_all
  have hj : j < l.length * n := by have := (List.getElem?_eq_some_iff.1 hu).1; rwa [flat_len f n hf] at this
  have hn : 0 < n := by rcases Nat.eq_zero_or_pos n with h0 | h0; (subst h0; omega); exact h0
  have e : j = j / n * n + j % n := by rw [Nat.mul_comm]; exact (Nat.div_add_mod j n).symm
  have hlt : j % n < n := Nat.mod_lt _ hn
  rw [hadd]
  rw [e] at hu ⊢
  rw [flat_get f n hf l _ _ hlt] at hu
  obtain ⟨x, hx, hu⟩ := Option.bind_eq_some_iff.1 hu
  rw [h.cell hx hlt, hu]
/-- One cell is written. -/
theorem RowOf.set1 (h : RowOf f n T W V cap l) {i j : Nat} (hi : i < l.length) (hj : j < n) {x y : α} (hx : l[i]? = some x) {v : Value} (hv : ∀ m, m < n → (f y)[m]? = if m = j then some v else (f x)[m]?) : RowOf f n T (W.setCell ⟨V, i * n + j, none⟩ v) V cap (l.set i y) := by
  obtain ⟨cur, h1, h2, h3, h4, h5⟩ := h
  have hlt : ∀ i m, i < cap → m < n → i * n + m < cap * n := fun i m hi hm => by
    have : (i + 1) * n ≤ cap * n := Nat.mul_le_mul_right n hi
    rw [Nat.add_mul] at this; omega
  refine ⟨_, heap_set_same _ h1, by simpa using h2, by simpa using h3, h4, fun k z hz m hm => ?_⟩
  by_cases e : k = i
  · subst e
    rw [List.getElem?_set_self hi] at hz
    cases hz
    rw [hv m hm, Array.getElem?_setIfInBounds]
    by_cases e2 : m = j
    · subst e2; rw [if_pos rfl, if_pos (by rw [h2]; exact hlt _ _ (by omega) hm), if_pos rfl]
    · rw [if_neg (by omega), if_neg e2, h5 k x hx m hm]
  · rw [List.getElem?_set_ne (Ne.symm e)] at hz
    rw [Array.getElem?_setIfInBounds, if_neg, h5 k z hz m hm]
    intro e2
    have a1 : (i * n + j) / n = i := by rw [Nat.mul_comm, Nat.mul_add_div (by omega), Nat.div_eq_of_lt hj]; omega
    have a2 : (k * n + m) / n = k := by rw [Nat.mul_comm, Nat.mul_add_div (by omega), Nat.div_eq_of_lt hm]; omega
    rw [e2] at a1
    omega
end

/-- The cells from o on are written, one behind the other. -/
def putAll (W : World) (V : Nat) : Nat → List Value → World
  | _, [] => W
  | o, v :: t => putAll (W.setCell ⟨V, o, none⟩ v) V (o + 1) t
theorem putAll_heap {V : Nat} {T : TypeId} {z : Nat × Nat} : ∀ (vs : List Value) (W : World) (o : Nat) (cur : Array Value), W.heap[V]? = some (.cells cur T z) →
    ∃ cur', (putAll W V o vs).heap[V]? = some (.cells cur' T z) ∧ cur'.size = cur.size ∧ ∀ m, m < cur.size → cur'[m]? = if o ≤ m ∧ m < o + vs.length then vs[m - o]? else cur[m]? := by
  intro vs
  induction vs with
  | nil => intro W o cur h; exact ⟨cur, h, rfl, fun m _ => by rw [if_neg (by simp)]⟩
  | cons v t ih =>
    intro W o cur h
    obtain ⟨cur', h1, h2, h3⟩ := ih (W.setCell ⟨V, o, none⟩ v) (o + 1) _ (heap_set_same v h)
    refine ⟨cur', h1, by simpa using h2, fun m hm => ?_⟩
    rw [h3 m (by simpa using hm), List.length_cons]
    by_cases e : m = o
    · subst e
      rw [if_neg (by omega), if_pos (by omega), Nat.sub_self, Array.getElem?_setIfInBounds, if_pos rfl, if_pos hm]; rfl
    · by_cases e2 : o + 1 ≤ m ∧ m < o + 1 + t.length
      · rw [if_pos e2, if_pos (by omega), show m - o = (m - (o + 1)) + 1 by omega]; rfl
      · rw [if_neg e2, if_neg (by omega), Array.getElem?_setIfInBounds, if_neg (Ne.symm e)]
theorem putAll_size (V : Nat) : ∀ (vs : List Value) (W : World) (o : Nat), (putAll W V o vs).heap.size = W.heap.size := by
  intro vs
  induction vs with
  | nil => intro W o; rfl
  | cons v t ih => intro W o; rw [putAll, ih]; simp [World.setCell]
theorem But.putAll {S : List Nat} {w : World} {V : Nat} (hp : V ∈ S ∨ w.heap.size ≤ V) : ∀ (vs : List Value) (w' : World) (o : Nat), But S w w' → But S w (putAll w' V o vs) := by
  intro vs
  induction vs with
  | nil => intro w' o h; exact h
  | cons v t ih => intro w' o h; exact ih _ _ (h.set (p := ⟨V, o, none⟩) hp v)
theorem putAll_other {V k : Nat} (hk : k ≠ V) : ∀ (vs : List Value) (W : World) (o : Nat), (Go.Proofs.Ytmllalmdaobboaa.putAll W V o vs).heap[k]? = W.heap[k]? := by
  intro vs
  induction vs with
  | nil => intro W o; rfl
  | cons v t ih => intro W o; exact (ih _ _).trans (Below.heap_setCell W ⟨V, o, none⟩ v k hk)
theorem RowOf.setAll {α : Type} {f : α → List Value} {n : Nat} {T : TypeId} {W : World} {V cap : Nat} {l : List α} (h : RowOf f n T W V cap l) {i : Nat} (hi : i < l.length) {y : α} (hy : (f y).length = n) : RowOf f n T (Go.Proofs.Ytmllalmdaobboaa.putAll W V (i * n) (f y)) V cap (l.set i y) := by
  obtain ⟨cur, h1, h2, h3, h4, h5⟩ := h
  obtain ⟨cur', k1, k2, k3⟩ := putAll_heap (f y) W (i * n) cur h1
  refine ⟨cur', k1, k2.trans h2, by simpa using h3, h4, fun k z hz m hm => ?_⟩
  have hk : k < l.length := by have := (List.getElem?_eq_some_iff.1 hz).1; simpa using this
  have hlt : k * n + m < cur.size := by
    have : (k + 1) * n ≤ cap * n := Nat.mul_le_mul_right n (by omega)
    rw [Nat.add_mul] at this; omega
  rw [k3 _ hlt, hy]
  by_cases e : k = i
  · subst e
    rw [List.getElem?_set_self hi] at hz
    cases hz
    rw [if_pos (by omega), Nat.add_sub_cancel_left]
  · rw [List.getElem?_set_ne (Ne.symm e)] at hz
    rw [if_neg, h5 k z hz m hm]
    rintro ⟨e1, e2⟩
    rcases Nat.lt_or_gt_of_ne e with e3 | e3
    · have : (k + 1) * n ≤ i * n := Nat.mul_le_mul_right n e3
      rw [Nat.add_mul] at this; omega
    · have : (i + 1) * n ≤ k * n := Nat.mul_le_mul_right n e3
      rw [Nat.add_mul] at this; omega

/-! ### Sudogs and slots -/
abbrev Sud := Int × Int × Bool × Int × Int
def zeroS : Sud := (0, 0, false, 0, 0)
def sudV (x : Sud) : List Value := [.int .i64 x.1, .int .i64 x.2.1, .bool x.2.2.1, .int .i64 x.2.2.2.1, .int .u64 x.2.2.2.2]
/-- A sudog as a value. -/
def sudA (x : Sud) : Value := .agg #[.int .i64 x.1, .int .i64 x.2.1, .bool x.2.2.1, .int .i64 x.2.2.2.1, .int .u64 x.2.2.2.2]
/-- A slot: what it has, which one is behind it in the free list. -/
abbrev Slo := Option Sud × Nat
def sloV (s : Slo) : List Value := .bool s.1.isSome :: (sudV (s.1.getD zeroS) ++ [.int .i64 (s.2 : Int)])
theorem sloV_len (s : Slo) : (sloV s).length = 7 := rfl
abbrev Slots (W : World) (V cap : Nat) (l : List Slo) : Prop := RowOf sloV 7 54 W V cap l

/-- Block B is a pool: these slots, in block V, the first free one, how many are taken. -/
structure Pol (W : World) (B V cap : Nat) (l : List Slo) (f n : Nat) : Prop where
  head : W.heap[B]? = some (.cells #[.slice (some ⟨V, 0, none⟩) l.length cap, .int .i64 (f : Int), .int .i64 (n : Int)] 52 (0, 0))
  row : Slots W V cap l
  first : f ≤ l.length
  cnt : n ≤ l.length
  len : l.length ≤ 1024

section
variable {W W' : World} {B V cap : Nat} {l : List Slo} {f n : Nat}
theorem Pol.ltB (h : Pol W B V cap l f n) : B < W.heap.size := (Array.getElem?_eq_some_iff.1 h.head).1
theorem Pol.ltV (h : Pol W B V cap l f n) : V < W.heap.size := h.row.lt
theorem Pol.ne (h : Pol W B V cap l f n) : B ≠ V := by
  obtain ⟨_, _, h1⟩ := h.row.block
  exact type_ne h.head h1 (by decide)
theorem Pol.cellS (h : Pol W B V cap l f n) : W.cell? ⟨B, 0, none⟩ = some (.slice (some ⟨V, 0, none⟩) l.length cap) := by simp [World.cell?, h.head]
theorem Pol.cellF (h : Pol W B V cap l f n) : W.cell? ⟨B, 1, none⟩ = some (.int .i64 (f : Int)) := by simp [World.cell?, h.head]
theorem Pol.cellN (h : Pol W B V cap l f n) : W.cell? ⟨B, 2, none⟩ = some (.int .i64 (n : Int)) := by simp [World.cell?, h.head]
theorem Pol.frozenB (h : Pol W B V cap l f n) (k : Nat) : W.frozen? ⟨B, k, none⟩ = false := by simp [World.frozen?, h.head]
theorem Pol.but (h : Pol W B V cap l f n) {S : List Nat} (hb : But S W W') (h1 : B ∉ S) (h2 : V ∉ S) : Pol W' B V cap l f n := ⟨(hb.block B h.ltB h1).trans h.head, h.row.but hb h2, h.first, h.cnt, h.len⟩
theorem Pol.setSlot (h : Pol W B V cap l f n) {i : Nat} (hi : i < l.length) (y : Slo) : Pol (Go.Proofs.Ytmllalmdaobboaa.putAll W V (i * 7) (sloV y)) B V cap (l.set i y) f n :=
  ⟨(putAll_other h.ne _ _ _).trans (by rw [List.length_set]; exact h.head), h.row.setAll hi rfl, by rw [List.length_set]; exact h.first, by rw [List.length_set]; exact h.cnt, by rw [List.length_set]; exact h.len⟩
theorem slot7 {W : World} {V o : Nat} {s : Slo} {t : Bool} {a b : Int} {c : Bool} {d e k' : Int} (ht : t = s.1.isSome) (hx : (a, b, c, d, e) = s.1.getD zeroS) (hk : k' = (s.2 : Int)) :
    (((((((W.setCell ⟨V, o, none⟩ (.bool t)).setCell ⟨V, o + 1, none⟩ (.int .i64 a)).setCell ⟨V, o + 2, none⟩ (.int .i64 b)).setCell ⟨V, o + 3, none⟩ (.bool c)).setCell ⟨V, o + 4, none⟩ (.int .i64 d)).setCell ⟨V, o + 5, none⟩ (.int .u64 e)).setCell ⟨V, o + 6, none⟩ (.int .i64 k')) = Go.Proofs.Ytmllalmdaobboaa.putAll W V o (sloV s) := by
  subst ht hk
  simp only [sloV, ← hx, sudV, List.cons_append, List.nil_append, Go.Proofs.Ytmllalmdaobboaa.putAll, Nat.add_assoc, Nat.reduceAdd]
theorem Pol.setSlot7 (h : Pol W B V cap l f n) {i : Nat} (hi : i < l.length) (s : Slo) {o : Nat} (ho : o = i * 7) {t : Bool} {a b : Int} {c : Bool} {d e k' : Int} (ht : t = s.1.isSome) (hx : (a, b, c, d, e) = s.1.getD zeroS) (hk : k' = (s.2 : Int)) :
    Pol (((((((W.setCell ⟨V, o, none⟩ (.bool t)).setCell ⟨V, o + 1, none⟩ (.int .i64 a)).setCell ⟨V, o + 2, none⟩ (.int .i64 b)).setCell ⟨V, o + 3, none⟩ (.bool c)).setCell ⟨V, o + 4, none⟩ (.int .i64 d)).setCell ⟨V, o + 5, none⟩ (.int .u64 e)).setCell ⟨V, o + 6, none⟩ (.int .i64 k')) B V cap (l.set i s) f n := by
  subst ho
  rw [slot7 ht hx hk]
  exact h.setSlot hi s
theorem But.set7 {S : List Nat} {w W : World} {V o : Nat} (h : But S w W) (hp : V ∈ S ∨ w.heap.size ≤ V) (v0 v1 v2 v3 v4 v5 v6 : Value) :
    But S w (((((((W.setCell ⟨V, o, none⟩ v0).setCell ⟨V, o + 1, none⟩ v1).setCell ⟨V, o + 2, none⟩ v2).setCell ⟨V, o + 3, none⟩ v3).setCell ⟨V, o + 4, none⟩ v4).setCell ⟨V, o + 5, none⟩ v5).setCell ⟨V, o + 6, none⟩ v6) :=
  ((((((h.set (p := ⟨V, o, none⟩) hp v0).set (p := ⟨V, o + 1, none⟩) hp v1).set (p := ⟨V, o + 2, none⟩) hp v2).set (p := ⟨V, o + 3, none⟩) hp v3).set (p := ⟨V, o + 4, none⟩) hp v4).set (p := ⟨V, o + 5, none⟩) hp v5).set (p := ⟨V, o + 6, none⟩) hp v6
theorem Pol.setF (h : Pol W B V cap l f n) {k : Nat} {x : Int} (hx : x = (k : Int)) (hk : k ≤ l.length) : Pol (W.setCell ⟨B, 1, none⟩ (.int .i64 x)) B V cap l k n := by
  subst hx
  exact ⟨heap_set_same _ h.head, h.row.of_block (Below.heap_setCell W _ _ V h.ne.symm), hk, h.cnt, h.len⟩
theorem Pol.setN (h : Pol W B V cap l f n) {k : Nat} {x : Int} (hx : x = (k : Int)) (hk : k ≤ l.length) : Pol (W.setCell ⟨B, 2, none⟩ (.int .i64 x)) B V cap l f k := by
  subst hx
  exact ⟨heap_set_same _ h.head, h.row.of_block (Below.heap_setCell W _ _ V h.ne.symm), h.first, hk, h.len⟩
theorem Pol.drewN (h : Pol W B V cap l f n) (k : Nat) : Pol (W.drewN k) B V cap l f n := ⟨h.head, h.row, h.first, h.cnt, h.len⟩
theorem Pol.drew (h : Pol W B V cap l f n) : Pol W.drew B V cap l f n := ⟨h.head, h.row, h.first, h.cnt, h.len⟩
end
end Go.Proofs.Ytmllalmdaobboaa
