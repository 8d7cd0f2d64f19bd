/-
  What the law ClaimOnce holds in memory at the head of a round: claims, what was told, and how often each was won.
-/
import Derived.Maps.AppendAt
import Derived.Test.YtbpelcclkmmglaaJApartM
namespace Go.Proofs.Ytbpelcclkmmglaa
open Go.RowKit

/-! ### A block of n cells of one type, as a function -/
def upd {α : Type} (f : Nat → α) (k : Nat) (v : α) : Nat → α := fun j => if j = k then v else f j
theorem upd_same {α : Type} (f : Nat → α) (k : Nat) (v : α) : upd f k v k = v := by simp [upd]
theorem upd_ne {α : Type} (f : Nat → α) {k j : Nat} (v : α) (h : j ≠ k) : upd f k v j = f j := by simp [upd, h]
def ArrF (W : World) (T : Nat) (t : TypeId) (n : Nat) (f : Nat → Value) : Prop := W.heap[T]? = some (.cells ((List.range n).map f).toArray t (0, 0))
theorem ArrF.lt {W : World} {T n : Nat} {t : TypeId} {f : Nat → Value} (h : ArrF W T t n f) : T < W.heap.size := (Array.getElem?_eq_some_iff.1 h).1
theorem ArrF.cell {W : World} {T n : Nat} {t : TypeId} {f : Nat → Value} (h : ArrF W T t n f) {k : Nat} (hk : k < n) : W.cell? ⟨T, k, none⟩ = some (f k) := by
  simp [World.cell?, show W.heap[T]? = _ from h, hk]
theorem ArrF.frozen {W : World} {T n : Nat} {t : TypeId} {f : Nat → Value} (h : ArrF W T t n f) (k : Nat) : W.frozen? ⟨T, k, none⟩ = false := by simp [World.frozen?, show W.heap[T]? = _ from h]
theorem ArrF.set {W : World} {T n : Nat} {t : TypeId} {f : Nat → Value} (h : ArrF W T t n f) (k : Nat) (v : Value) : ArrF (W.setCell ⟨T, k, none⟩ v) T t n (upd f k v) := by
  refine (heap_set_same _ h).trans ?_
  rw [List.setIfInBounds_toArray]
  congr 3
  apply List.ext_getElem?
  intro j
  rw [List.getElem?_set]
  by_cases e : k = j
  · subst e
    by_cases hk : k < n
    · simp [hk, upd]
    · simp [hk]
  · by_cases hj : j < n
    · simp [e, hj, upd, Ne.symm e]
    · simp [e, hj]
theorem ArrF.of_block {W W' : World} {T n : Nat} {t : TypeId} {f : Nat → Value} (h : ArrF W T t n f) (hb : W'.heap[T]? = W.heap[T]?) : ArrF W' T t n f := hb.trans h
theorem ArrF.but {W W' : World} {S : List Nat} {T n : Nat} {t : TypeId} {f : Nat → Value} (h : ArrF W T t n f) (hb : But S W W') (hT : T ∉ S) : ArrF W' T t n f := (hb.block T h.lt hT).trans h
theorem ArrF.made {W : World} {base n : Nat} {t : TypeId} {z : Value} (hz : z.cells = #[z]) (h : W.ownsRow base t 1 (.slice (some ⟨base, 0, none⟩) n n) n (madeCells z.cells (n * 1)).toList) : ArrF W base t n (fun _ => z) := by
  rw [hz, Nat.mul_one, toList_madeCells_one] at h
  rcases h.2 with ⟨h0, _⟩ | ⟨g, cap, cur, he, _, hb, _, _, hs, ht⟩
  · cases h0
  · simp only [Value.slice.injEq, Option.some.injEq, Addr.mk.injEq, and_true, true_and] at he
    obtain ⟨rfl, rfl⟩ := he
    have hcur : cur = (List.replicate n z).toArray := by
      rw [← ht, ← hs, ← Array.length_toList, List.take_length]
    refine (show W.heap[base]? = _ from hb).trans ?_
    rw [hcur]
    congr 3
    apply List.ext_getElem?
    intro j
    by_cases hj : j < n
    · simp [hj]
    · simp [hj]
theorem infoSl : (Try.prog.info? 32).map (fun i => (i.zero, i.size, i.bytes)) = some (some (.slice none 0 0), 1, 24) := by kernel_rfl
theorem infoI64 : (Try.prog.info? 3).map (fun i => (i.zero, i.size, i.bytes)) = some (some (.int .i64 0), 1, 8) := by kernel_rfl

/-! ### Rows of the call's own -/
theorem row_block {W : World} {base : Nat} {e : TypeId} {size : Nat} {v : Value} {k : Nat} {xs : List Value} (h : W.ownsRow base e size v k xs) {g : Nat} (hg : v.ownBlock = some g) : ∃ cs z, W.heap[g]? = some (Obj.cells cs e z) := by
  rcases h.2 with ⟨rfl, _⟩ | ⟨g', cap, cur, rfl, _, hgb, _⟩
  · simp [Value.ownBlock] at hg
  · obtain rfl : g' = g := by simpa [Value.ownBlock] using hg
    exact ⟨_, _, hgb⟩
theorem row_own {W : World} {base n : Nat} {e : TypeId} {v : Value} {xs : List Value} (h : W.ownsRow base e 1 v n xs) {g : Nat} (hg : v.ownBlock = some g) : base ≤ g ∧ g < W.heap.size := by
  obtain ⟨cs, z, hb⟩ := row_block h hg
  refine ⟨?_, (Array.getElem?_eq_some_iff.1 hb).1⟩
  rcases h.2 with ⟨rfl, _⟩ | ⟨g', cap, cur, rfl, hle, _⟩
  · simp [Value.ownBlock] at hg
  · obtain rfl : g' = g := by simpa [Value.ownBlock] using hg
    exact hle
theorem row_grown {W W' : World} {v : Value} {tmp : Obj} (hg : (W.alloc tmp).grownBy W' v.ownBlock) : W.grownBy W' v.ownBlock := (World.grownBy_alloc W tmp _).trans hg
theorem row_slice {W : World} {base n : Nat} {e : TypeId} {v : Value} {xs : List Value} (h : W.ownsRow base e 1 v n xs) : ∃ a cap, v = .slice a n cap := by
  rcases h.2 with ⟨rfl, rfl⟩ | ⟨g, cap, cur, rfl, _⟩
  · exact ⟨_, _, rfl⟩
  · exact ⟨_, _, rfl⟩
theorem row_some {W : World} {base n cap : Nat} {e : TypeId} {pa : Option Addr} {xs : List Value} (h : W.ownsRow base e 1 (.slice pa n cap) n xs) (hn : 0 < n) : ∃ g, pa = some ⟨g, 0, none⟩ := by
  rcases h.2 with ⟨_, h0⟩ | ⟨g, c, cur, he, _⟩
  · omega
  · simp only [Value.slice.injEq] at he; exact ⟨g, he.1⟩

/-- The turns that were told: the odd numbers, so many. -/
def odds (n : Nat) : List Nat := (List.range n).map fun i => 2 * i + 1
theorem odds_len (n : Nat) : (odds n).length = n := by simp [odds]
theorem odds_succ (n : Nat) : U64 (odds (n + 1)) = U64 (odds n) ++ [.int .u64 ((2 * n + 1 : Nat) : Int)] := by
  simp [odds, U64, List.range_succ]
theorem odds_cell {W : World} {base g cap n j : Nat} (h : W.ownsRow base 33 1 (.slice (some ⟨g, 0, none⟩) n cap) n (U64 (odds n))) (hj : j < n) : W.cell? ⟨g, j, none⟩ = some (.int .u64 ((2 * j + 1 : Nat) : Int)) := by
  have := h.cellAt j (by omega)
  rw [show (U64 (odds n))[j]? = some (.int .u64 ((2 * j + 1 : Nat) : Int)) by simp [U64, odds, hj]] at this
  by_cases h0 : j = 0
  · subst h0; simpa [Addr.add] using this
  · simpa [Addr.add, h0] using this

/-- Six claims, each opened ns and claimed ws times; ls turns were told of each, and zs won. -/
structure Once (w0 W : World) (L P Q B V T Z bs m : Nat) (ns ws ls zs : Nat → Nat) (gs : Nat → Value) : Prop where
  clm : Clm W L P Q B 3 6
  cels : ∃ vs c, Cels W B V vs c ∧ vs.length = 40 ∧ ∀ k, k < 6 → nth vs (3 + k) = ns k + ws k
  told : ArrF W T 32 6 gs
  won : ArrF W Z 3 6 (fun k => .int .i64 (zs k : Int))
  rows : ∀ k, k < 6 → W.ownsRow bs 33 1 (gs k) (ls k) (U64 (odds (ls k)))
  apart : ∀ j k, j < 6 → k < 6 → j ≠ k → ∀ g, (gs j).ownBlock = some g → (gs k).ownBlock ≠ some g
  but : But [] w0 W
  own : w0.heap.size ≤ B ∧ w0.heap.size ≤ V ∧ w0.heap.size ≤ T ∧ w0.heap.size ≤ Z ∧ w0.heap.size ≤ bs
  low : L < bs ∧ P < bs ∧ Q < bs ∧ B < bs ∧ V < bs ∧ T < bs ∧ Z < bs
  size : bs ≤ W.heap.size
  alt : ∀ k, k < 6 → ws k ≤ ns k ∧ ns k ≤ ws k + 1
  most : ∀ k, k < 6 → ns k ≤ m

theorem Once.cells {w0 W W' : World} {L P Q B V T Z bs m m' c' : Nat} {ns ws ns' ws' ls zs : Nat → Nat} {gs : Nat → Value} {vs' : List Nat} (h : Once w0 W L P Q B V T Z bs m ns ws ls zs gs) (hC' : Cels W' B V vs' c') (hg : But [B, V] W W') (hl : vs'.length = 40)
    (hv : ∀ k, k < 6 → nth vs' (3 + k) = ns' k + ws' k) (ha : ∀ k, k < 6 → ws' k ≤ ns' k ∧ ns' k ≤ ws' k + 1) (hm : ∀ k, k < 6 → ns' k ≤ m') : Once w0 W' L P Q B V T Z bs m' ns' ws' ls zs gs := by
  obtain ⟨vs, c, hC, -, -⟩ := h.cels
  refine ⟨h.clm.cels hC hg, ⟨vs', c', hC', hl, hv⟩, h.told.but hg ?_, h.won.but hg ?_, fun k hk => hg.row (h.rows k hk) fun g e => ?_, h.apart, h.but.own hg h.own.1 h.own.2.1, h.own, h.low, Nat.le_trans h.size hg.size, ha, hm⟩
  · simpa using ⟨type_ne h.told hC.head (by decide), type_ne h.told hC.row (by decide)⟩
  · simpa using ⟨type_ne h.won hC.head (by decide), type_ne h.won hC.row (by decide)⟩
  · have := (row_own (h.rows k hk) e).1
    have := h.low
    simp; omega
theorem Once.turn {w0 W : World} {L P Q B V T Z bs m : Nat} {ns ws ls zs : Nat → Nat} {gs : Nat → Value} (h : Once w0 W L P Q B V T Z bs m ns ws ls zs gs) :
    ∃ vs c, Cels W B V vs c ∧ vs.length = 40 ∧ (∀ k, k < 6 → nth vs (3 + k) = ns k + ws k) ∧ ∀ k : Nat, k < 6 → turnE 3 6 vs (k : Int) = ns k + ws k := by
  obtain ⟨vs, c, hC, hl, hv⟩ := h.cels
  exact ⟨vs, c, hC, hl, hv, fun k hk => by rw [turnE_nat hk, hv k hk]⟩
theorem Once.isOdd {w0 W : World} {L P Q B V T Z bs m : Nat} {ns ws ls zs : Nat → Nat} {gs : Nat → Value} (h : Once w0 W L P Q B V T Z bs m ns ws ls zs gs) {k : Nat} (hk : k < 6) : Ytbpelcclkmmglaa.isOdd (ns k + ws k) = decide (ns k = ws k + 1) := by
  have := h.alt k hk
  unfold Ytbpelcclkmmglaa.isOdd
  by_cases e : ns k = ws k + 1
  · rw [decide_eq_true e]; exact decide_eq_true (by omega)
  · rw [decide_eq_false e]; exact decide_eq_false (by omega)

theorem isopen_once {w0 W : World} {L P Q B V T Z bs m : Nat} {ns ws ls zs : Nat → Nat} {gs : Nat → Value} {k : Nat} {b : Bool} (h : Once w0 W L P Q B V T Z bs m ns ws ls zs gs) (hk : k < 6) (hb : Hid (decide (ns k = ws k + 1) = b)) :
    Calls Try.prog 19 #[.pointer (some ⟨L, 0, none⟩), .int .i64 (k : Int)] W fun e w' => e = .returned (.bool b) ∧ w' = W := by
  obtain ⟨vs, c, hC, hl, hv, ht⟩ := h.turn
  exact isopen_at W h.clm hC (by omega) (Lib.hid (by unfold openIs; rw [ht k hk, h.isOdd hk]; exact hb.out))
theorem open_once_was {w0 W : World} {L P Q B V T Z bs m : Nat} {ns ws ls zs : Nat → Nat} {gs : Nat → Value} {k : Nat} (h : Once w0 W L P Q B V T Z bs m ns ws ls zs gs) (hk : k < 6) (hb : ns k = ws k + 1) :
    Calls Try.prog 10 #[.pointer (some ⟨L, 0, none⟩), .int .i64 (k : Int)] W fun e w' => e = .returned (.int .u64 ((2 * ws k + 1 : Nat) : Int)) ∧ w' = W := by
  obtain ⟨vs, c, hC, hl, hv, ht⟩ := h.turn
  have ho : Ytbpelcclkmmglaa.isOdd (nth vs (3 + k)) = true := by rw [hv k hk, h.isOdd hk]; exact decide_eq_true hb
  have hx := open_there k W h.clm hC hk (by omega) ho
  rw [hv k hk, show ns k + ws k = 2 * ws k + 1 by omega] at hx
  exact hx
theorem open_once_new {w0 W : World} {L P Q B V T Z bs m : Nat} {ns ws ls zs : Nat → Nat} {gs : Nat → Value} {k : Nat} (h : Once w0 W L P Q B V T Z bs m ns ws ls zs gs) (hk : k < 6) (hm : m ≤ 300) (hb : ns k = ws k) :
    Calls Try.prog 10 #[.pointer (some ⟨L, 0, none⟩), .int .i64 (k : Int)] W fun e w' => e = .returned (.int .u64 ((2 * ns k + 1 : Nat) : Int)) ∧ Once w0 w' L P Q B V T Z bs (m + 1) (upd ns k (ns k + 1)) ws ls zs gs := by
  obtain ⟨vs, c, hC, hl, hv, ht⟩ := h.turn
  have ho : Ytbpelcclkmmglaa.isOdd (nth vs (3 + k)) = false := by rw [hv k hk, h.isOdd hk]; exact decide_eq_false (by omega)
  have hx := open_shut k W h.clm hC hk (by omega) ho
  have := h.most k hk
  rw [hv k hk, show up (ns k + ws k) = 2 * ns k + 1 by rw [up_eq (by omega)]; omega] at hx
  refine hx.mono ?_
  rintro e w' ⟨rfl, hC', hg⟩
  refine ⟨rfl, h.cells hC' hg (by simpa using hl) (fun j hj => ?_) (fun j hj => ?_) (fun j hj => ?_)⟩
  · by_cases e : j = k
    · subst e; rw [nth_set_eq (by omega), upd_same]; omega
    · rw [nth_set_ne (by omega), hv j hj, upd_ne _ _ e]
  · by_cases e : j = k
    · subst e; rw [upd_same]; omega
    · rw [upd_ne _ _ e]; exact h.alt j hj
  · have := h.most j hj
    by_cases e : j = k
    · subst e; rw [upd_same]; omega
    · rw [upd_ne _ _ e]; omega
theorem claim_once_yes {w0 W : World} {L P Q B V T Z bs m t : Nat} {ns ws ls zs : Nat → Nat} {gs : Nat → Value} {k : Nat} (h : Once w0 W L P Q B V T Z bs m ns ws ls zs gs) (hk : k < 6) (hm : m ≤ 300) (hb : ns k = ws k + 1) (ht : Hid (t = 2 * ws k + 1)) :
    Calls Try.prog 12 #[.pointer (some ⟨L, 0, none⟩), .int .i64 (k : Int), .int .u64 (t : Int)] W fun e w' => e = .returned (.bool true) ∧ Once w0 w' L P Q B V T Z bs m ns (upd ws k (ws k + 1)) ls zs gs := by
  obtain rfl := ht.out
  obtain ⟨vs, c, hC, hl, hv, ht⟩ := h.turn
  have := h.most k hk
  have ho : Ytbpelcclkmmglaa.isOdd (2 * ws k + 1) = true := decide_eq_true (by omega)
  have hx := claim_odd k (2 * ws k + 1) W h.clm hC hk (by omega) ho
  rw [hv k hk, decide_eq_true (by omega), casV, hv k hk, if_pos (by omega), up_eq (by omega)] at hx
  refine hx.mono ?_
  rintro e w' ⟨rfl, hC', hg⟩
  refine ⟨rfl, h.cells hC' hg (by simpa using hl) (fun j hj => ?_) (fun j hj => ?_) h.most⟩
  · by_cases e : j = k
    · subst e; rw [nth_set_eq (by omega), upd_same]; omega
    · rw [nth_set_ne (by omega), hv j hj, upd_ne _ _ e]
  · by_cases e : j = k
    · subst e; rw [upd_same]; omega
    · rw [upd_ne _ _ e]; exact h.alt j hj
theorem claim_once_no {w0 W : World} {L P Q B V T Z bs m : Nat} {ns ws ls zs : Nat → Nat} {gs : Nat → Value} {k : Nat} (t : Nat) (h : Once w0 W L P Q B V T Z bs m ns ws ls zs gs) (hk : k < 6) (ht : Hid (¬ ns k + ws k = t)) :
    Calls Try.prog 12 #[.pointer (some ⟨L, 0, none⟩), .int .i64 (k : Int), .int .u64 (t : Int)] W fun e w' => e = .returned (.bool false) ∧ Once w0 w' L P Q B V T Z bs m ns ws ls zs gs := by
  obtain ⟨vs, c, hC, hl, hv, htu⟩ := h.turn
  have hx := claim_any (k : Int) t W h.clm hC (by omega)
  have hc : claimE 3 6 vs (k : Int) t = false := by unfold claimE; rw [htu k hk, decide_eq_false ht.out, Bool.and_false]
  rw [claimV, hc] at hx
  refine hx.mono ?_
  rintro e w' ⟨rfl, hC', hg⟩
  exact ⟨rfl, h.cells hC' hg hl hv h.alt h.most⟩

theorem Once.weak {w0 W : World} {L P Q B V T Z bs m : Nat} {ns ws ls zs : Nat → Nat} {gs : Nat → Value} (h : Once w0 W L P Q B V T Z bs m ns ws ls zs gs) : Once w0 W L P Q B V T Z bs (m + 1) ns ws ls zs gs :=
  ⟨h.clm, h.cels, h.told, h.won, h.rows, h.apart, h.but, h.own, h.low, h.size, h.alt, fun k hk => by have := h.most k hk; omega⟩
/-- One is won more often. -/
theorem Once.win {w0 W : World} {L P Q B V T Z bs m : Nat} {ns ws ls zs : Nat → Nat} {gs : Nat → Value} {x : Int} (h : Once w0 W L P Q B V T Z bs m ns ws ls zs gs) (k : Nat) (hx : x = ((zs k + 1 : Nat) : Int)) : Once w0 (W.setCell ⟨Z, k, none⟩ (.int .i64 x)) L P Q B V T Z bs m ns ws ls (upd zs k (zs k + 1)) gs := by
  subst hx
  obtain ⟨vs, c, hC, hl, hv⟩ := h.cels
  have hg : But [Z] W (W.setCell ⟨Z, k, none⟩ (.int .i64 ((zs k + 1 : Nat) : Int))) := (But.refl _ W).set (.inl (by simp)) _
  have lo := h.low
  refine ⟨h.clm.but hg ?_ ?_ ?_, ⟨vs, c, hC.but hg ?_ ?_, hl, hv⟩, h.told.but hg ?_, ?_, fun j hj => hg.row (h.rows j hj) fun g e => ?_, h.apart, h.but.trans hg (by have := h.own; simp; omega), h.own, h.low, Nat.le_trans h.size hg.size, h.alt, h.most⟩
  · simpa using type_ne h.clm.head h.won (by decide)
  · have := h.won.cell (k := 0) (by omega)
    intro e
    obtain rfl : P = Z := by simpa using e
    have h1 := h.won
    have h2 := h.clm.boxN
    have := h1.symm.trans h2
    simp [List.range_succ] at this
  · intro e
    obtain rfl : Q = Z := by simpa using e
    have h1 := h.won
    have h2 := h.clm.boxB
    have := h1.symm.trans h2
    simp [List.range_succ] at this
  · simpa using type_ne hC.head h.won (by decide)
  · simpa using type_ne hC.row h.won (by decide)
  · simpa using type_ne h.told h.won (by decide)
  · have := h.won.set k (.int .i64 ((zs k + 1 : Nat) : Int))
    refine (show ArrF _ _ _ _ _ from this).trans ?_
    congr 3
    apply List.map_congr_left
    intro j _
    by_cases e : j = k
    · subst e; rw [upd_same, upd_same]
    · rw [upd_ne _ _ e, upd_ne _ _ e]
  · have := (row_own (h.rows j hj) e).1
    simp; omega
/-- One is told more: appended, and stored. -/
theorem Once.put {w0 W W' : World} {L P Q B V T Z bs m : Nat} {ns ws ls zs : Nat → Nat} {gs : Nat → Value} {v' : Value} {tmp : Obj} (h : Once w0 W L P Q B V T Z bs m ns ws ls zs gs) {k : Nat} (hk : k < 6)
    (ho : W'.ownsRow bs 33 1 v' (ls k + 1) (U64 (odds (ls k)) ++ [.int .u64 ((2 * ls k + 1 : Nat) : Int)])) (hg : (W.alloc tmp).grownBy W' (gs k).ownBlock) (hat : v'.ownBlock = (gs k).ownBlock ∨ v'.ownBlock = some (W.heap.size + 1)) :
    Once w0 (W'.setCell ⟨T, k, none⟩ v') L P Q B V T Z bs m ns ws (upd ls k (ls k + 1)) zs (upd gs k v') := by
  obtain ⟨vs, c, hC, hl, hv⟩ := h.cels
  have lo := h.low
  have hg' := row_grown hg
  have hne : ∀ x, x < bs → some x ≠ (gs k).ownBlock := fun x hx e => by have := (row_own (h.rows k hk) e.symm).1; omega
  have kept : ∀ x, x < W.heap.size → x < bs → W'.heap[x]? = W.heap[x]? := fun x h1 h2 => hg'.block x h1 (hne x h2)
  have g2 : But [T] W' (W'.setCell ⟨T, k, none⟩ v') := (But.refl _ W').set (.inl (by simp)) _
  have hgrow : ∀ g, v'.ownBlock = some g → (gs k).ownBlock = some g ∨ g = W.heap.size + 1 := fun g e => by
    rcases hat with h1 | h1
    · exact .inl (h1 ▸ e)
    · rw [h1] at e; exact .inr (Option.some.inj e).symm
  have hbut : But [] w0 W' := by
    cases hb : (gs k).ownBlock with
    | none => rw [hb] at hg'; exact h.but.next (.of_none hg' [])
    | some g =>
      rw [hb] at hg'
      refine h.but.trans (.of_some hg' (S := [g]) (by simp)) ?_
      have := (row_own (h.rows k hk) hb).1
      have := h.own
      simp; omega
  have hclm : Clm W' L P Q B 3 6 := ⟨(kept L h.clm.ltL (by omega)).trans h.clm.head, (kept P h.clm.boxN.lt (by omega)).trans h.clm.boxN, (kept Q h.clm.boxB.lt (by omega)).trans h.clm.boxB, h.clm.most, h.clm.room⟩
  have hC' : Cels W' B V vs c := hC.of_blocks (kept B hC.ltB (by omega)) (kept V hC.ltV (by omega))
  have htold : ArrF W' T 32 6 gs := h.told.of_block (kept T h.told.lt (by omega))
  have hwon : ArrF W' Z 3 6 (fun k => .int .i64 (zs k : Int)) := h.won.of_block (kept Z h.won.lt (by omega))
  have hrows : ∀ j, j < 6 → W'.ownsRow bs 33 1 (upd gs k v' j) (upd ls k (ls k + 1) j) (U64 (odds (upd ls k (ls k + 1) j))) := fun j hj => by
    by_cases e : j = k
    · subst e; rw [upd_same, upd_same, odds_succ]; exact ho
    · rw [upd_ne _ _ e, upd_ne _ _ e]
      refine (h.rows j hj).kept hg' ?_
      cases hb : (gs j).ownBlock with
      | none => exact .inl rfl
      | some g => exact .inr fun e2 => h.apart k j hk hj (Ne.symm e) g e2.symm hb
  refine ⟨hclm.but g2 ?_ ?_ ?_, ⟨vs, c, hC'.but g2 ?_ ?_, hl, hv⟩, htold.set k v', hwon.but g2 ?_, fun j hj => g2.row (hrows j hj) fun g e => ?_, ?_, hbut.trans g2 (by have := h.own; simp; omega), h.own, h.low, Nat.le_trans (Nat.le_trans h.size hg'.size) g2.size, h.alt, h.most⟩
  · simpa using type_ne hclm.head htold (by decide)
  · simpa using type_ne hclm.boxN htold (by decide)
  · simpa using type_ne hclm.boxB htold (by decide)
  · simpa using type_ne hC'.head htold (by decide)
  · simpa using type_ne hC'.row htold (by decide)
  · simpa using type_ne hwon htold (by decide)
  · have := (row_own (hrows j hj) e).1
    simp; omega
  · intro i j hi hj hij g e1 e2
    by_cases h1 : i = k
    · subst h1
      rw [upd_same] at e1
      rw [upd_ne _ _ (Ne.symm hij)] at e2
      rcases hgrow g e1 with e | e
      · exact h.apart i j hi hj hij g e e2
      · have := (row_own (h.rows j hj) e2).2; omega
    · rw [upd_ne _ _ h1] at e1
      by_cases h2 : j = k
      · subst h2
        rw [upd_same] at e2
        rcases hgrow g e2 with e | e
        · exact h.apart i j hi hj hij g e1 e
        · have := (row_own (h.rows i hi) e1).2; omega
      · rw [upd_ne _ _ h2] at e2
        exact h.apart i j hi hj hij g e1 e2

theorem row_more {W : World} {base n : Nat} {e : TypeId} {v : Value} {xs : List Value} (h : W.ownsRow base e 1 v (n + 1) xs) : ∃ g cap, v = .slice (some ⟨g, 0, none⟩) (n + 1) cap := by
  rcases h.2 with ⟨_, h0⟩ | ⟨g, cap, cur, he, _⟩
  · omega
  · exact ⟨g, cap, he⟩
theorem row_cap {W : World} {base n cap : Nat} {e : TypeId} {a : Option Addr} {xs : List Value} (h : W.ownsRow base e 1 (.slice a n cap) n xs) : n ≤ cap := by
  rcases h.2 with ⟨h0, _⟩ | ⟨_, _, _, he, _, _, h1, _⟩
  · simp only [Value.slice.injEq] at h0; omega
  · simp only [Value.slice.injEq] at he; omega
/-- The row's place among the rows stays where a row grows. -/
theorem Once.place {w0 W W' : World} {L P Q B V T Z bs m : Nat} {ns ws ls zs : Nat → Nat} {gs : Nat → Value} {v : Value} {tmp : Obj} (h : Once w0 W L P Q B V T Z bs m ns ws ls zs gs) {k : Nat} (hk : k < 6) (hv : gs k = v) (hg : (W.alloc tmp).grownBy W' v.ownBlock) : W'.cell? ⟨T, k, none⟩ = some v ∧ W'.frozen? ⟨T, k, none⟩ = false := by
  subst hv
  have hg' := row_grown hg
  have lo := h.low
  have hb : W'.heap[T]? = W.heap[T]? := hg'.block T h.told.lt fun e => by have := (row_own (h.rows k hk) e.symm).1; omega
  have a := h.told.of_block hb
  exact ⟨a.cell hk, a.frozen k⟩
theorem Once.drewN {w0 W : World} {L P Q B V T Z bs m : Nat} {ns ws ls zs : Nat → Nat} {gs : Nat → Value} (h : Once w0 W L P Q B V T Z bs m ns ws ls zs gs) (q : Nat) : Once w0 (W.drewN q) L P Q B V T Z bs m ns ws ls zs gs := by
  obtain ⟨vs, c, hC, hl, hv⟩ := h.cels
  exact ⟨h.clm.drewN q, ⟨vs, c, hC.drewN q, hl, hv⟩, h.told, h.won, h.rows, h.apart, h.but.drewN q, h.own, h.low, h.size, h.alt, h.most⟩

theorem or_one {t : Nat} (h : t < 18446744073709551616) : ∃ y : Nat, bits .or .u64 (t : Int) 1 = (y : Int) ∧ ¬ y = 0 := by
  refine ⟨t ||| 1, u64_or_nat t 1 h (by omega), fun e => ?_⟩
  have := congrArg (fun x : Nat => x.testBit 0) e
  simp at this
theorem rest_row (t m : Nat) (h : m ≤ 1000) : ∃ p : Nat, p < m + 1 ∧ wrap64 ((t : Int) % ((m : Int) + 1)) = (p : Int) := by
  have h1 : t % (m + 1) < m + 1 := Nat.mod_lt _ (by omega)
  refine ⟨t % (m + 1), h1, ?_⟩
  rw [show (t : Int) % ((m : Int) + 1) = ((t % (m + 1) : Nat) : Int) by simp, IntWalk.wrap64_in _ (by omega)]

/-- The beginning: nothing was done. -/
theorem Once.first {w0 W W1 W2 : World} {L P Q B V : Nat} (hL : Clm W L P Q B 3 6) (hC : Cels W B V (List.replicate 40 0) 0) (hz : But [] w0 W) (hB : w0.heap.size ≤ B) (hV : w0.heap.size ≤ V)
    (h1 : W1.ownsRow W.heap.size 32 1 (.slice (some ⟨W.heap.size, 0, none⟩) 6 6) 6 (madeCells (Value.slice none 0 0).cells (6 * 1)).toList) (g1 : W.grownBy W1 none)
    (h2 : W2.ownsRow W1.heap.size 3 1 (.slice (some ⟨W1.heap.size, 0, none⟩) 6 6) 6 (madeCells (Value.int .i64 0).cells (6 * 1)).toList) (g2 : W1.grownBy W2 none) :
    Once w0 W2 L P Q B V W.heap.size W1.heap.size W2.heap.size 0 (fun _ => 0) (fun _ => 0) (fun _ => 0) (fun _ => 0) (fun _ => .slice none 0 0) := by
  have b1 := But.of_none g1 []
  have b2 := But.of_none g2 []
  have b := b1.next b2
  have a1 := ArrF.made rfl h1
  have a2 := ArrF.made rfl h2
  have hC2 := hC.but b (by simp) (by simp)
  have hL2 := hL.but b (by simp) (by simp) (by simp)
  have a1' := a1.but b2 (by simp)
  have := hz.size
  have := a1.lt
  have := b1.size
  have := b2.size
  have := a2.lt
  refine ⟨hL2, ⟨_, _, hC2, by simp, fun k hk => ?_⟩, a1', a2, fun k _ => World.ownsRow_nil _ _ _ _, fun j k _ _ _ g e => by simp [Value.ownBlock] at e, hz.next b, ⟨hB, hV, by omega, by omega, by omega⟩, ⟨hL2.ltL, hL2.boxN.lt, hL2.boxB.lt, hC2.ltB, hC2.ltV, a1'.lt, a2.lt⟩, Nat.le_refl _, fun k _ => ⟨Nat.le_refl _, by omega⟩, fun k _ => Nat.le_refl _⟩
  unfold nth
  rw [List.getElem?_replicate, if_pos (by omega)]; rfl
end Go.Proofs.Ytbpelcclkmmglaa
