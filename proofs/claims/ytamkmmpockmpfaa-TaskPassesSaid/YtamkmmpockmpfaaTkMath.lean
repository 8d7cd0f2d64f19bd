/-
  What a table of tasks is; a map from sites to orders; a table in memory.
-/
import Derived.Maps.OwnSet
import Derived.Maps.OwnOps
import Derived.Test.YtamkmmpockmpfaaOPick
import Derived.Test.YtamkmmpockmpfaaONew
import Derived.Test.YtamkmmpockmpfaaGCopyAll
import Derived.Test.YtamkmmpockmpfaaHSmall
namespace Go.Proofs.Ytamkmmpockmpfaa
open Go.RowKit Go.Maps

theorem odBut {S : List Nat} {w w' : World} (h : Od.But S w w') : But S w w' := ⟨h.os, h.tape, h.output, h.size, h.block⟩
theorem toOd {S : List Nat} {w w' : World} (h : But S w w') : Od.But S w w' := ⟨h.os, h.tape, h.output, h.size, h.block⟩
theorem But.of_le {w w' : World} {n : Nat} (h : Below n w w') (hn : w.heap.size ≤ n) (S : List Nat) : But S w w' := ⟨h.os, h.tape, h.output, h.size, fun k hk _ => h.block k (by omega)⟩

/-! ### A map from sites to orders -/
def heldP : Value → Option (DataW Value × List MemPlace) := fun v => some (.held v, [])
theorem keyI {s : Int} (h : I64b s) : keyOf Try.prog 3 (.int .i64 s) = some (.int .i64 s) := keyOf_int_mk Try.underlying3 (WalkArith.wf_i64 h)
theorem keyedI : Keyed Try.prog 3 := int_keyed Try.underlying3
theorem zeroOrd (w : World) : (zeroValue 69).run Try.prog w = .ok (.pointer none) w := by kernel_rfl
theorem keyLitI {s : Int} (h : I64b s) : WideAt.IsKeyLit (.int .i64 s) := keyedI.key (keyI h)
theorem lit_neI {i j : Int} (h : i ≠ j) : (Lit.int .i64 i) ≠ .int .i64 j := fun e => h (by
  simp only [Lit.int.injEq, true_and] at e
  exact e)
theorem held_injP {a b : Value} (h : (DataW.held a : DataW Value) = .held b) : a = b := by cases h; rfl

/-- Where the order of that site is, of those that are. -/
def oAt (O : List Nat) (s : Int) : Option Addr := if 0 ≤ s then (O[s.toNat]?).map fun o => ⟨o, 0, none⟩ else none
theorem oAt_in {O : List Nat} {k o : Nat} (h : O[k]? = some o) : oAt O (k : Int) = some ⟨o, 0, none⟩ := by
  rw [oAt, if_pos (by omega), Int.toNat_natCast, h]; rfl
theorem oAt_out {O : List Nat} {s : Int} (h : s < 0 ∨ (O.length : Int) ≤ s) : oAt O s = none := by
  by_cases h0 : 0 ≤ s
  · rw [oAt, if_pos h0, List.getElem?_eq_none (by omega)]; rfl
  · rw [oAt, if_neg h0]
theorem oAt_snoc {O : List Nat} {o : Nat} {s : Int} (h : s ≠ (O.length : Int)) : oAt (O ++ [o]) s = oAt O s := by
  by_cases h0 : 0 ≤ s
  · rw [oAt, oAt, if_pos h0, if_pos h0]
    by_cases h1 : s.toNat < O.length
    · rw [List.getElem?_append_left h1]
    · rw [List.getElem?_eq_none (by simp; omega), List.getElem?_eq_none (by omega)]
  · rw [oAt, oAt, if_neg h0, if_neg h0]

/-- Block M is a map in which each site of those has its order. -/
def MapP (W : World) (M : Nat) (O : List Nat) : Prop :=
  ∃ D : DataW Value, W.ownsMap Try.prog 3 heldP M O.length D ∧ Maps.size D = O.length ∧ (∀ s : Int, I64b s → Maps.has D (.int .i64 s) = decide (0 ≤ s ∧ s < (O.length : Int))) ∧ ∀ s : Int, I64b s → D.atKey (.int .i64 s) (.held (.pointer none)) = .held (.pointer (oAt O s))
section
variable {W W' : World} {M : Nat} {O : List Nat}
theorem MapP.lt (h : MapP W M O) : M < W.heap.size := by obtain ⟨_, h, _⟩ := h; exact h.lt
theorem MapP.obj (h : MapP W M O) : ∃ es clock, W.heap[M]? = some (.map es clock) := by obtain ⟨D, ⟨es, clock, h1, _⟩, _⟩ := h; exact ⟨es, clock, h1⟩
theorem MapP.of_block (h : MapP W M O) (hb : W'.heap[M]? = W.heap[M]?) : MapP W' M O := by
  obtain ⟨D, ⟨es, clock, h1, r⟩, h2⟩ := h
  exact ⟨D, ⟨es, clock, hb.trans h1, r⟩, h2⟩
theorem MapP.but (h : MapP W M O) {S : List Nat} (hb : But S W W') (hM : M ∉ S) : MapP W' M O := h.of_block (hb.block M h.lt hM)
theorem mapP_made (w : World) : MapP (w.alloc (.map #[] 0)) w.heap.size [] :=
  ⟨.map [], World.ownsMap_made w _ _ _, rfl, fun s _ => by rw [decide_eq_false (by simp only [List.length_nil]; omega)]; rfl, fun s _ => by rw [oAt_out (by simp only [List.length_nil]; omega)]; rfl⟩
theorem MapP.look (h : MapP W M O) {s : Int} (hs : I64b s) : (Instr.lookup 64 (.map (some M)) (.int .i64 s) false).run Try.prog W = .ok (.pointer (oAt O s)) W := by
  obtain ⟨D, hown, _, _, hD⟩ := h
  obtain ⟨v, ps, hrun, hv⟩ := hown.lookup keyedI Try.underlying64 (zeroOrd W) (show heldP (.pointer none) = some (.held (.pointer none), []) from rfl) (keyI hs)
  have h2 := hD s hs
  simp only [heldP, Option.some.injEq, Prod.mk.injEq] at hv
  rw [h2] at hv
  rw [hrun, held_injP hv.1]
theorem MapP.store (h : MapP W M O) (hc : O.length < 1000000) (o : Nat) :
    ∃ W', (Instr.mapUpdate 64 (.map (some M)) (.int .i64 (O.length : Int)) (.pointer (some ⟨o, 0, none⟩))).run Try.prog W = .ok () W' ∧ MapP W' M (O ++ [o]) ∧ But [M] W W' := by
  obtain ⟨D, hown, hs, hh, hD⟩ := h
  have hi : I64b (O.length : Int) := ⟨by omega, by omega⟩
  obtain ⟨W', hrun, hown', hg⟩ := hown.update keyedI Try.underlying64 (by unfold maxLen; omega) (keyI hi) (show heldP (.pointer (some ⟨o, 0, none⟩)) = some (.held (.pointer (some ⟨o, 0, none⟩)), []) from rfl)
  have hT := hown.tidy keyedI
  have hsz := size_put (k := .int .i64 (O.length : Int)) hT (.held (.pointer (some ⟨o, 0, none⟩)))
  rw [hs, hh _ hi, decide_eq_false (by omega)] at hsz
  simp only [Bool.false_eq_true, if_false] at hsz
  refine ⟨W', hrun, ⟨_, ?_, by rw [hsz]; simp, fun s hb => ?_, fun s hb => ?_⟩, But.of_some hg (by simp)⟩
  · obtain ⟨es, clock, hb, F, hn, hD'⟩ := hown'
    refine ⟨es, clock, hb, F, ?_, hD'⟩
    rw [hD'] at hsz
    simp only [Maps.size, length_sorted, List.length_map, Array.length_toList] at hsz
    simp; omega
  · by_cases e : s = (O.length : Int)
    · subst e
      rw [has_put_same hT.isMap (keyLitI hb), decide_eq_true (by simp; omega)]
    · rw [has_put_other (lit_neI e), hh s hb]
      simp only [List.length_append, List.length_singleton]
      by_cases h1 : 0 ≤ s ∧ s < (O.length : Int)
      · rw [decide_eq_true h1, decide_eq_true (by omega)]
      · rw [decide_eq_false h1, decide_eq_false (by omega)]
  · by_cases e : s = (O.length : Int)
    · subst e
      rw [atKey_put_same hT.isMap (keyLitI hb), oAt_in (o := o) (by simp)]
    · rw [atKey_put_other (lit_neI e), hD s hb, oAt_snoc e]
end

/-! ### A table -/
/-- A task: how it is, where, how much it used, its slots, its orders by sites. -/
structure Tk where
  st : Nat
  f : Fra
  used : Int
  sl : List Int
  os : List (List Int)
/-- Where a task lies: its block, its slots, its map, its orders. -/
structure Ta where
  B : Nat
  S : Value
  M : Nat
  O : List Nat
def tkL (st : Nat) (f : Fra) (used : Int) (S : Value) (M : Nat) : List Value := .int .u8 (st : Int) :: (fraL f ++ [.int .i64 used, S, .map (some M)])
def tkA (st : Nat) (f : Fra) (used : Int) (S : Value) (M : Nat) : Array Value := (tkL st f used S M).toArray
/-- The blocks in which a task lies. -/
def Ta.foot (a : Ta) : List Nat := a.B :: a.M :: (a.O ++ a.S.ownBlock.toList)
structure TkAt (W : World) (a : Ta) (k : Tk) : Prop where
  blk : Blk W a.B 67 (tkA k.st k.f k.used a.S a.M)
  slots : W.ownsRow 0 3 1 a.S k.sl.length (Od.I64 k.sl)
  map : MapP W a.M a.O
  len : a.O.length = k.os.length
  ords : ∀ (j o : Nat) (l : List Int), a.O[j]? = some o → k.os[j]? = some l → Od.Ord W o l.length l
  nd : a.O.Nodup

/-- A table: its program, its tasks. -/
structure Tb where
  p : Prg
  ts : List Tk
/-- Where a table lies: its block, its program's blocks and values, its row of tasks, each task. -/
structure Ad where
  T : Nat
  lo : Nat
  hi : Nat
  v1 : Value
  v2 : Value
  v3 : Value
  R : Value
  ks : List Ta
def Ad.foot (A : Ad) : List Nat := A.T :: (A.R.ownBlock.toList ++ A.ks.flatMap Ta.foot)
def ptrT (a : Ta) : Value := .pointer (some ⟨a.B, 0, none⟩)
structure Tab (W : World) (A : Ad) (s : Tb) : Prop where
  blk : Blk W A.T 59 #[A.v1, A.v2, A.v3, A.R]
  prg : PrgAt A.lo A.hi W A.v1 A.v2 A.v3 s.p
  small : Small s.p
  may : checkW s.p = none
  row : W.ownsRow 0 61 1 A.R s.ts.length (A.ks.map ptrT)
  len : A.ks.length = s.ts.length
  most : s.ts.length ≤ 32
  each : ∀ (i : Nat) (a : Ta) (k : Tk), A.ks[i]? = some a → s.ts[i]? = some k → TkAt W a k
  apart : ∀ (i j : Nat) (a b : Ta), i ≠ j → A.ks[i]? = some a → A.ks[j]? = some b → ∀ x ∈ a.foot, x ∉ b.foot
  out : ∀ x ∈ A.foot, x < A.lo ∨ A.hi ≤ x
/-- From W to W' the table that lay at A has come to lie at A'. -/
structure Turn (W W' : World) (A A' : Ad) : Prop where
  t : A'.T = A.T
  but : But A.foot W W'
  new : ∀ x ∈ A'.foot, x ∈ A.foot ∨ W.heap.size ≤ x

section
variable {W W' : World} {a a' : Ta} {k k' : Tk} {A A' : Ad} {s : Tb}
theorem Ta.foot_B (a : Ta) : a.B ∈ a.foot := by simp [Ta.foot]
theorem Ta.foot_M (a : Ta) : a.M ∈ a.foot := by simp [Ta.foot]
theorem Ta.foot_O {a : Ta} {j o : Nat} (h : a.O[j]? = some o) : o ∈ a.foot := by
  have := List.mem_of_getElem? h
  simp [Ta.foot, this]
theorem Ta.foot_S {a : Ta} {g : Nat} (h : a.S.ownBlock = some g) : g ∈ a.foot := by simp [Ta.foot, h]
theorem Ad.foot_T (A : Ad) : A.T ∈ A.foot := by simp [Ad.foot]
theorem Ad.foot_R {A : Ad} {g : Nat} (h : A.R.ownBlock = some g) : g ∈ A.foot := by simp [Ad.foot, h]
theorem Ad.foot_k {A : Ad} {i : Nat} {a : Ta} (h : A.ks[i]? = some a) {x : Nat} (hx : x ∈ a.foot) : x ∈ A.foot := by
  have := List.mem_of_getElem? h
  simp only [Ad.foot, List.mem_cons, List.mem_append, List.mem_flatMap]
  exact .inr (.inr ⟨a, this, hx⟩)
theorem Ad.of_foot {A : Ad} {x : Nat} (h : x ∈ A.foot) : x = A.T ∨ A.R.ownBlock = some x ∨ ∃ (i : Nat) (a : Ta), A.ks[i]? = some a ∧ x ∈ a.foot := by
  simp only [Ad.foot, List.mem_cons, List.mem_append, List.mem_flatMap, Option.mem_toList] at h
  rcases h with h | h | ⟨a, ha, hx⟩
  · exact .inl h
  · exact .inr (.inl h)
  · obtain ⟨i, hi⟩ := List.getElem?_of_mem ha
    exact .inr (.inr ⟨i, a, hi, hx⟩)

theorem owns_lt {w : World} {base n s : Nat} {e : TypeId} {v : Value} {xs : List Value} (h : w.ownsRow base e s v n xs) {g : Nat} (hg : v.ownBlock = some g) : ∃ cur, w.heap[g]? = some (.cells cur e (0, 0)) := by
  rcases id h.2 with ⟨rfl, _⟩ | ⟨g', cap, cur, rfl, _, h1, _⟩
  · simp [Value.ownBlock] at hg
  · simp only [Value.ownBlock, Option.some.injEq] at hg
    subst hg
    exact ⟨cur, h1⟩
/-- What the blocks of a task are. -/
theorem TkAt.kind (h : TkAt W a k) {x : Nat} (hx : x ∈ a.foot) : (∃ cs t, (t = 67 ∨ t = 110 ∨ t = 3) ∧ W.heap[x]? = some (.cells cs t (0, 0))) ∨ ∃ es c, W.heap[x]? = some (.map es c) := by
  simp only [Ta.foot, List.mem_cons, List.mem_append, Option.mem_toList] at hx
  rcases hx with rfl | rfl | hx | hx
  · exact .inl ⟨_, _, .inl rfl, h.blk⟩
  · exact .inr h.map.obj
  · obtain ⟨j, hj⟩ := List.getElem?_of_mem hx
    have hl : j < k.os.length := by rw [← h.len]; exact (List.getElem?_eq_some_iff.1 hj).1
    obtain ⟨vs, h1, _⟩ := (h.ords j x _ hj (List.getElem?_eq_getElem hl)).raw
    exact .inl ⟨_, _, .inr (.inl rfl), h1.2⟩
  · obtain ⟨cur, hc⟩ := owns_lt h.slots hx
    exact .inl ⟨cur, _, .inr (.inr rfl), hc⟩
theorem TkAt.lt (h : TkAt W a k) {x : Nat} (hx : x ∈ a.foot) : x < W.heap.size := by
  rcases h.kind hx with ⟨cs, t, _, h1⟩ | ⟨es, c, h1⟩ <;> exact (Array.getElem?_eq_some_iff.1 h1).1
theorem TkAt.ne (h : TkAt W a k) {x y : Nat} (hx : x ∈ a.foot) {cs : Array Value} {t : TypeId} {z : Nat × Nat} (hy : W.heap[y]? = some (.cells cs t z)) (ht : t ≠ 67 ∧ t ≠ 110 ∧ t ≠ 3) : x ≠ y := by
  rintro rfl
  rcases h.kind hx with ⟨cs', t', h1, h2⟩ | ⟨es, c, h2⟩
  · rw [hy] at h2
    simp only [Option.some.injEq, Obj.cells.injEq] at h2
    obtain ⟨-, rfl, -⟩ := h2
    rcases h1 with h1 | h1 | h1
    · exact ht.1 h1
    · exact ht.2.1 h1
    · exact ht.2.2 h1
  · rw [hy] at h2; cases h2
theorem TkAt.but (h : TkAt W a k) {S : List Nat} (hb : But S W W') (hS : ∀ x ∈ a.foot, x ∉ S) : TkAt W' a k :=
  ⟨(hb.block _ h.blk.lt (hS _ a.foot_B)).trans h.blk, hb.row h.slots fun g hg => hS g (Ta.foot_S hg), h.map.but hb (hS _ a.foot_M), h.len,
   fun j o l hj hl => (h.ords j o l hj hl).but (toOd hb) (hS o (Ta.foot_O hj)), h.nd⟩
theorem Tab.lt (h : Tab W A s) {x : Nat} (hx : x ∈ A.foot) : x < W.heap.size := by
  rcases Ad.of_foot hx with rfl | hg | ⟨i, a, ha, hx⟩
  · exact h.blk.lt
  · obtain ⟨cur, hc⟩ := owns_lt h.row hg
    exact (Array.getElem?_eq_some_iff.1 hc).1
  · have hi : i < s.ts.length := by rw [← h.len]; exact (List.getElem?_eq_some_iff.1 ha).1
    exact (h.each i a _ ha (List.getElem?_eq_getElem hi)).lt hx
theorem Tab.but (h : Tab W A s) {S : List Nat} (hb : But S W W') (hS : ∀ x ∈ S, x ∉ A.foot) (hP : ∀ x ∈ S, x < A.lo ∨ A.hi ≤ x) : Tab W' A s := by
  have hS' : ∀ x ∈ A.foot, x ∉ S := fun x hx hxs => hS x hxs hx
  refine ⟨(hb.block _ h.blk.lt (hS' _ A.foot_T)).trans h.blk, h.prg.stay (fun b h1 h2 => hb.block b (Nat.lt_of_lt_of_le h2 h.prg.top) (fun hbs => by have := hP b hbs; omega)) (Nat.le_trans h.prg.top hb.size), h.small, h.may, hb.row h.row fun g hg => hS' g (Ad.foot_R hg), h.len, h.most, fun i a k ha hk => ?_, h.apart, h.out⟩
  exact (h.each i a k ha hk).but hb fun x hx => hS' x (Ad.foot_k ha hx)
theorem Tab.fresh (h : Tab W A s) (hb : But [] W W') : Tab W' A s := h.but hb (by simp) (by simp)
theorem Tab.later (h : Tab W A s) (hb : Below W.heap.size W W') : Tab W' A s := h.fresh (But.of_below hb [])
theorem Tab.drew (h : Tab W A s) : Tab W.drew A s := h.fresh (But.refl [] W).drew
theorem Tab.drewN (h : Tab W A s) (n : Nat) : Tab (W.drewN n) A s := h.fresh ((But.refl [] W).drewN n)
theorem Turn.refl (hb : But [] W W') : Turn W W' A A := ⟨rfl, hb.mono (by simp), fun x hx => .inl hx⟩
theorem Turn.trans {W1 W2 W3 : World} {A1 A2 A3 : Ad} (h : Turn W1 W2 A1 A2) (k : Turn W2 W3 A2 A3) : Turn W1 W3 A1 A3 :=
  ⟨k.t.trans h.t, h.but.trans k.but (fun x hx hl => by
    rcases h.new x hx with h1 | h1
    · exact h1
    · omega), fun x hx => by
    rcases k.new x hx with h1 | h1
    · exact h.new x h1
    · exact .inr (Nat.le_trans h.but.size h1)⟩
theorem set_same {α : Type} {l : List α} {i : Nat} {x : α} (h : l[i]? = some x) : l.set i x = l := by
  apply List.ext_getElem?
  intro j
  by_cases e : i = j
  · subst e
    rw [List.getElem?_set_self (List.getElem?_eq_some_iff.1 h).1, h]
  · rw [List.getElem?_set_ne e]
/-- One task is turned; all else of the table stays. -/
theorem Tab.turn (h : Tab W A s) {i : Nat} (ha : A.ks[i]? = some a) (hk : s.ts[i]? = some k) {S : List Nat} (hb : But S W W') (hS : ∀ x ∈ S, x ∈ a.foot)
    (h' : TkAt W' a' k') (hB : a'.B = a.B) (hn : ∀ x ∈ a'.foot, x ∈ a.foot ∨ W.heap.size ≤ x) :
    Tab W' { A with ks := A.ks.set i a' } { s with ts := s.ts.set i k' } ∧ Turn W W' A { A with ks := A.ks.set i a' } := by
  have hK := h.each i a k ha hk
  have hil : i < A.ks.length := (List.getElem?_eq_some_iff.1 ha).1
  have hil' : i < s.ts.length := (List.getElem?_eq_some_iff.1 hk).1
  have hT : A.T ∉ S := fun hx => hK.ne (hS _ hx) h.blk (by decide) rfl
  have hR : ∀ g, A.R.ownBlock = some g → g ∉ S := fun g hg hx => by
    obtain ⟨cur, hc⟩ := owns_lt h.row hg
    exact hK.ne (hS _ hx) hc (by decide) rfl
  have hout : ∀ x ∈ S, x < A.lo ∨ A.hi ≤ x := fun x hx => h.out x (Ad.foot_k ha (hS x hx))
  have hset : ∀ (j : Nat) (b : Ta), (A.ks.set i a')[j]? = some b → (j = i ∧ b = a') ∨ (j ≠ i ∧ A.ks[j]? = some b) := fun j b hj => by
    by_cases e : j = i
    · subst e; rw [List.getElem?_set_self hil] at hj; exact .inl ⟨rfl, (Option.some.inj hj).symm⟩
    · rw [List.getElem?_set_ne (fun q => e q.symm)] at hj; exact .inr ⟨e, hj⟩
  have hnew : ∀ x ∈ a'.foot, x ∈ A.foot ∨ W.heap.size ≤ x := fun x hx => (hn x hx).imp (fun q => Ad.foot_k ha q) id
  have hfoot : ∀ x ∈ ({ A with ks := A.ks.set i a' } : Ad).foot, x ∈ A.foot ∨ W.heap.size ≤ x := fun x hx => by
    rcases Ad.of_foot hx with rfl | hg | ⟨j, b, hb', hx'⟩
    · exact .inl A.foot_T
    · exact .inl (Ad.foot_R hg)
    · rcases hset j b hb' with ⟨_, hba⟩ | ⟨_, hj⟩
      · rw [hba] at hx'; exact hnew x hx'
      · exact .inl (Ad.foot_k hj hx')
  have hother : ∀ (j : Nat) (b : Ta), j ≠ i → A.ks[j]? = some b → ∀ x ∈ b.foot, x ∉ a'.foot ∧ x ∉ S ∧ x < W.heap.size := fun j b hj hb' x hx => by
    have hjl : j < s.ts.length := by rw [← h.len]; exact (List.getElem?_eq_some_iff.1 hb').1
    have hx1 : x ∉ a.foot := h.apart j i b a hj hb' ha x hx
    have hxl := (h.each j b _ hb' (List.getElem?_eq_getElem hjl)).lt hx
    refine ⟨fun q => ?_, fun q => hx1 (hS x q), hxl⟩
    rcases hn x q with q | q
    · exact hx1 q
    · omega
  refine ⟨⟨(hb.block _ h.blk.lt hT).trans h.blk, h.prg.stay (fun b h1 h2 => hb.block b (Nat.lt_of_lt_of_le h2 h.prg.top) (fun hbs => by have := hout b hbs; omega)) (Nat.le_trans h.prg.top hb.size), h.small, h.may, ?_, by simp [h.len], by simpa using h.most, ?_, ?_, ?_⟩, rfl, hb.mono fun x hx => Ad.foot_k ha (hS x hx), hfoot⟩
  · have := hb.row h.row hR
    simp only [List.length_set]
    rw [List.map_set, show ptrT a' = ptrT a by rw [ptrT, ptrT, hB]]
    rwa [set_same (by rw [List.getElem?_map, ha]; rfl)]
  · intro j b q hj hq
    rcases hset j b hj with ⟨rfl, rfl⟩ | ⟨hji, hj⟩
    · simp only [List.getElem?_set_self hil'] at hq
      obtain rfl := Option.some.inj hq
      exact h'
    · simp only [List.getElem?_set_ne (fun e => hji (Eq.symm e))] at hq
      exact (h.each j b q hj hq).but hb fun x hx => (hother j b hji hj x hx).2.1
  · intro j1 j2 b1 b2 hne h1 h2 x hx1 hx2
    rcases hset j1 b1 h1 with ⟨e1, q1⟩ | ⟨e1, g1⟩
    · rcases hset j2 b2 h2 with ⟨e2, q2⟩ | ⟨e2, g2⟩
      · exact hne (e1.trans e2.symm)
      · rw [q1] at hx1; exact (hother j2 b2 e2 g2 x hx2).1 hx1
    · rcases hset j2 b2 h2 with ⟨e2, q2⟩ | ⟨e2, g2⟩
      · rw [q2] at hx2; exact (hother j1 b1 e1 g1 x hx1).1 hx2
      · exact h.apart j1 j2 b1 b2 hne g1 g2 x hx1 hx2
  · intro x hx
    rcases hfoot x hx with q | q
    · exact h.out x q
    · have := h.prg.top; exact .inr (by show A.hi ≤ x; omega)
end
end Go.Proofs.Ytamkmmpockmpfaa
