/-
  Queues: what links make a row; joining two, one more at the end, one less; pure.
-/
import Derived.Test.YtkpnkhakjgfgfaaLMath
namespace Go.Proofs.Ytkpnkhakjgfgfaa.Lq
open Go.RowKit

abbrev Gs := Int → Option (Int × Int)
/-- The one behind a; the one ahead of b. -/
def outOf (g : Gs) (f : Int) (a : Int) : Int := match g a with
  | some x => x.2
  | none => f
def intoOf (g : Gs) (l : Int) (b : Int) : Int := match g b with
  | some x => x.1
  | none => l
/-- Each leads to the next one, and back. -/
def Ch (O I : Int → Int) : List Int → Prop
  | a :: b :: t => O a = b ∧ I b = a ∧ Ch O I (b :: t)
  | _ => True

theorem Ch.get {O I : Int → Int} : ∀ {L : List Int}, Ch O I L → ∀ {k : Nat} {a b : Int}, L[k]? = some a → L[k + 1]? = some b → O a = b ∧ I b = a
  | [], _, _, _, _, h, _ => by simp at h
  | [_], _, _, _, _, _, h => by simp at h
  | x :: y :: t, ⟨h1, h2, h3⟩, k, a, b, ha, hb => by
    cases k with
    | zero =>
      simp at ha hb
      subst ha hb
      exact ⟨h1, h2⟩
    | succ k => exact Ch.get h3 (k := k) (by simpa using ha) (by simpa using hb)
theorem Ch.of {O I : Int → Int} : ∀ {L : List Int}, (∀ (k : Nat) (a b : Int), L[k]? = some a → L[k + 1]? = some b → O a = b ∧ I b = a) → Ch O I L
  | [], _ => trivial
  | [_], _ => trivial
  | x :: y :: t, h => by
    obtain ⟨h1, h2⟩ := h 0 x y rfl rfl
    exact ⟨h1, h2, Ch.of fun k a b ha hb => h (k + 1) a b (by simpa using ha) (by simpa using hb)⟩
theorem Ch.app {O I : Int → Int} {a : Int} : ∀ {p q : List Int}, Ch O I (p ++ a :: q) ↔ Ch O I (p ++ [a]) ∧ Ch O I (a :: q)
  | [], q => by simp [Ch]
  | [x], q => by simp [Ch, and_assoc]
  | x :: y :: t, q => by
    have ih := Ch.app (O := O) (I := I) (a := a) (p := y :: t) (q := q)
    simp only [List.cons_append, Ch] at ih ⊢
    rw [ih]
    simp [and_assoc]
theorem Ch.congr {O I O' I' : Int → Int} : ∀ {L : List Int}, (∀ x ∈ L.dropLast, O' x = O x) → (∀ x ∈ L.tail, I' x = I x) → Ch O I L → Ch O' I' L
  | [], _, _, _ => trivial
  | [_], _, _, _ => trivial
  | x :: y :: t, h1, h2, ⟨c1, c2, c3⟩ => by
    refine ⟨?_, ?_, Ch.congr (fun z hz => h1 z ?_) (fun z hz => h2 z ?_) c3⟩
    · rw [h1 x (by simp), c1]
    · rw [h2 y (by simp), c2]
    · simp only [List.dropLast_cons_cons, List.mem_cons]; exact .inr hz
    · simp only [List.tail_cons, List.mem_cons] at hz ⊢; exact .inr hz

/-- The links g, the first one and the last one make the row xs. -/
structure Lk (g : Gs) (f l : Int) (xs : List Int) : Prop where
  nd : xs.Nodup
  rng : ∀ x ∈ xs, 0 ≤ x ∧ x < 1024
  dom : ∀ i, (g i).isSome = true ↔ i ∈ xs
  ch : Ch (outOf g f) (intoOf g l) (-1 :: (xs ++ [-1]))

theorem Lk.absent {g : Gs} {f l : Int} {xs : List Int} (h : Lk g f l xs) {i : Int} (hi : i ∉ xs) : g i = none := by
  have := h.dom i
  cases e : g i with
  | none => rfl
  | some x => rw [e] at this; simp at this; exact absurd this hi
theorem Lk.neg {g : Gs} {f l : Int} {xs : List Int} (h : Lk g f l xs) : (-1 : Int) ∉ xs := fun hm => by have := h.rng _ hm; omega
theorem Lk.there {g : Gs} {f l : Int} {xs : List Int} (h : Lk g f l xs) {i : Int} (hi : i ∈ xs) : ∃ x, g i = .some x := by
  have := (h.dom i).2 hi
  exact Option.isSome_iff_exists.1 this
theorem Lk.empty : Lk (fun _ => .none) (-1) (-1) [] := ⟨List.nodup_nil, by simp, by simp, by simp [Ch, outOf, intoOf]⟩
theorem Lk.first {g : Gs} {f l : Int} {xs : List Int} (h : Lk g f l xs) : f = (xs[0]?).getD (-1) := by
  have h1 : ((-1 : Int) :: (xs ++ [-1]))[0]? = .some (-1) := rfl
  have h2 : ((-1 : Int) :: (xs ++ [-1]))[0 + 1]? = .some ((xs[0]?).getD (-1)) := by cases xs <;> rfl
  have := (h.ch.get h1 h2).1
  simpa [outOf, h.absent h.neg] using this
theorem Lk.next {g : Gs} {f l : Int} {xs : List Int} (h : Lk g f l xs) {k : Nat} {i : Int} (hi : xs[k]? = .some i) {x : Int × Int} (hx : g i = .some x) : x.2 = (xs[k + 1]?).getD (-1) := by
  have hk := (List.getElem?_eq_some_iff.1 hi).1
  have h1 : ((-1 : Int) :: (xs ++ [-1]))[k + 1]? = .some i := by rw [List.getElem?_cons_succ, List.getElem?_append_left hk, hi]
  have h2 : ((-1 : Int) :: (xs ++ [-1]))[k + 1 + 1]? = .some ((xs[k + 1]?).getD (-1)) := by
    rw [List.getElem?_cons_succ]
    rcases Nat.lt_or_ge (k + 1) xs.length with h | h
    · rw [List.getElem?_append_left h, List.getElem?_eq_getElem h]; rfl
    · rw [List.getElem?_append_right h, show k + 1 - xs.length = 0 by omega, List.getElem?_eq_none h]; rfl
  have := (h.ch.get h1 h2).1
  simpa [outOf, hx] using this

/-- a and b are joined. -/
def joG1 (g : Gs) (a b : Int) : Gs := match g a with
  | some x => upd g a (some (x.1, b))
  | none => g
def joF (g : Gs) (f a b : Int) : Int := match g a with
  | some _ => f
  | none => b
def joG2 (g : Gs) (a b : Int) : Gs := match g b with
  | some x => upd g b (some (a, x.2))
  | none => g
def joL (g : Gs) (l a b : Int) : Int := match g b with
  | some _ => l
  | none => a
def joG (g : Gs) (a b : Int) : Gs := joG2 (joG1 g a b) a b

theorem joG1_val (g : Gs) (a b k : Int) : joG1 g a b k = if k = a then (g k).map (fun x => (x.1, b)) else g k := by
  unfold joG1
  by_cases e : k = a
  · subst e
    rw [if_pos rfl]
    cases h : g k with
    | none => simp [h]
    | some x => simp [upd_same]
  · rw [if_neg e]
    cases h : g a with
    | none => rfl
    | some x => exact upd_ne e
theorem joG2_val (g : Gs) (a b k : Int) : joG2 g a b k = if k = b then (g k).map (fun x => (a, x.2)) else g k := by
  unfold joG2
  by_cases e : k = b
  · subst e
    rw [if_pos rfl]
    cases h : g k with
    | none => simp [h]
    | some x => simp [upd_same]
  · rw [if_neg e]
    cases h : g b with
    | none => rfl
    | some x => exact upd_ne e
theorem joG1_dom (g : Gs) (a b k : Int) : (joG1 g a b k).isSome = (g k).isSome := by
  rw [joG1_val]; split <;> simp
theorem joG2_dom (g : Gs) (a b k : Int) : (joG2 g a b k).isSome = (g k).isSome := by
  rw [joG2_val]; split <;> simp
theorem joG_dom (g : Gs) (a b k : Int) : (joG g a b k).isSome = (g k).isSome := by rw [joG, joG2_dom, joG1_dom]
theorem joL1 (g : Gs) (l a b : Int) : joL (joG1 g a b) l a b = joL g l a b := by
  have := joG1_dom g a b b
  unfold joL
  cases h1 : joG1 g a b b <;> cases h2 : g b <;> simp_all
theorem outOf_eq (g : Gs) (f k : Int) : outOf g f k = ((g k).map (·.2)).getD f := by unfold outOf; cases g k <;> rfl
theorem intoOf_eq (g : Gs) (l k : Int) : intoOf g l k = ((g k).map (·.1)).getD l := by unfold intoOf; cases g k <;> rfl
theorem no_of {g : Gs} {xs : List Int} (h : ∀ i, (g i).isSome = true ↔ i ∈ xs) {i : Int} (hi : i ∉ xs) : g i = none := by
  have := h i
  cases e : g i with
  | none => rfl
  | some x => rw [e] at this; simp at this; exact absurd this hi
/-- What leads where behind a join: whoever is asked is there, or is -1. -/
theorem jo_out {g : Gs} {f : Int} {xs : List Int} (h : ∀ i, (g i).isSome = true ↔ i ∈ xs) {a b k : Int} (hk : k ∈ xs ∨ k = -1) (ha : a ∈ xs ∨ a = -1) (hn : (-1 : Int) ∉ xs) :
    outOf (joG g a b) (joF g f a b) k = if k = a then b else outOf g f k := by
  have g1 := no_of h hn
  have e : (joG g a b k).map (·.2) = if k = a then (g k).map (fun _ => b) else (g k).map (·.2) := by
    rw [joG, joG2_val, joG1_val]
    by_cases e1 : k = b <;> by_cases e2 : k = a <;> simp [e1, e2, Function.comp_def] <;> (first | rfl | (split <;> simp_all [Function.comp_def]))
  rw [outOf_eq, outOf_eq, e]
  unfold joF
  rcases ha with ha | ha
  · obtain ⟨x, hx⟩ := Option.isSome_iff_exists.1 ((h a).2 ha)
    by_cases e1 : k = a
    · subst e1; simp [hx]
    · simp [e1, hx]
  · subst ha
    by_cases e1 : k = -1
    · subst e1; simp [g1]
    · obtain ⟨x, hx⟩ := Option.isSome_iff_exists.1 ((h k).2 (hk.resolve_right e1))
      simp [e1, hx]
theorem jo_into {g : Gs} {l : Int} {xs : List Int} (h : ∀ i, (g i).isSome = true ↔ i ∈ xs) {a b k : Int} (hk : k ∈ xs ∨ k = -1) (hb : b ∈ xs ∨ b = -1) (hn : (-1 : Int) ∉ xs) :
    intoOf (joG g a b) (joL g l a b) k = if k = b then a else intoOf g l k := by
  have g1 := no_of h hn
  have e : (joG g a b k).map (·.1) = if k = b then (g k).map (fun _ => a) else (g k).map (·.1) := by
    rw [joG, joG2_val, joG1_val]
    by_cases e1 : k = b <;> by_cases e2 : k = a <;> simp [e1, e2, Function.comp_def] <;> (first | rfl | (split <;> simp_all [Function.comp_def]))
  rw [intoOf_eq, intoOf_eq, e]
  unfold joL
  rcases hb with hb | hb
  · obtain ⟨x, hx⟩ := Option.isSome_iff_exists.1 ((h b).2 hb)
    by_cases e1 : k = b
    · subst e1; simp [hx]
    · simp [e1, hx]
  · subst hb
    by_cases e1 : k = -1
    · subst e1; simp [g1]
    · obtain ⟨x, hx⟩ := Option.isSome_iff_exists.1 ((h k).2 (hk.resolve_right e1))
      simp [e1, hx]

/-! ### One more at the end -/
def putG (g : Gs) (l i : Int) : Gs := joG (joG (upd g i (some (0, 0))) l i) i (-1)
def putF (g : Gs) (f l i : Int) : Int := joF (joG (upd g i (some (0, 0))) l i) (joF (upd g i (some (0, 0))) f l i) i (-1)
def putL (g : Gs) (l i : Int) : Int := joL (joG (upd g i (some (0, 0))) l i) (joL (upd g i (some (0, 0))) l l i) i (-1)
theorem upd_dom {g : Gs} {xs : List Int} (h : ∀ i, (g i).isSome = true ↔ i ∈ xs) (i : Int) : ∀ k, (upd g i (some (0, 0)) k).isSome = true ↔ k ∈ xs ++ [i] := fun k => by
  unfold upd
  by_cases e : k = i
  · simp [e]
  · simp [e, h k]
theorem Lk.last {g : Gs} {f l : Int} {xs : List Int} (h : Lk g f l xs) : ∃ p, -1 :: xs = p ++ [l] := by
  obtain ⟨p, a, e⟩ : ∃ p a, -1 :: xs = p ++ [a] := ⟨_, _, (List.dropLast_concat_getLast (List.cons_ne_nil _ _)).symm⟩
  have hc := h.ch
  rw [← List.cons_append, e, List.append_assoc, List.singleton_append, Ch.app] at hc
  have := hc.2.2.1
  rw [intoOf, h.absent h.neg] at this
  exact ⟨p, by rw [e]; simpa using this.symm⟩
theorem Lk.put {g : Gs} {f l : Int} {xs : List Int} (h : Lk g f l xs) {i : Int} (hi : i ∉ xs) (hr : 0 ≤ i ∧ i < 1024) : Lk (putG g l i) (putF g f l i) (putL g l i) (xs ++ [i]) := by
  have hd := upd_dom h.dom i
  have hd2 : ∀ k, (joG (upd g i (some (0, 0))) l i k).isSome = true ↔ k ∈ xs ++ [i] := fun k => by rw [joG_dom]; exact hd k
  have hneg := h.neg
  have hn1 : (-1 : Int) ∉ xs ++ [i] := by simp [hneg]; omega
  have hi1 : i ∈ xs ++ [i] ∨ i = -1 := .inl (by simp)
  obtain ⟨p, hp⟩ := h.last
  have hl : l ∈ xs ++ [i] ∨ l = -1 := by
    have : l ∈ -1 :: xs := by rw [hp]; simp
    rcases List.mem_cons.1 this with e | e
    · exact .inr e
    · exact .inl (by simp [e])
  have hnd : (-1 :: xs).Nodup := List.nodup_cons.2 ⟨hneg, h.nd⟩
  have hli : l ≠ i := by
    rintro rfl
    have : l ∈ -1 :: xs := by rw [hp]; simp
    rcases List.mem_cons.1 this with e | e
    · omega
    · exact hi e
  have O : ∀ k, k ∈ xs ++ [i] ∨ k = -1 → outOf (putG g l i) (putF g f l i) k = if k = i then -1 else if k = l then i else outOf (upd g i (some (0, 0))) f k := fun k hk => by
    rw [putG, putF, jo_out hd2 hk hi1 hn1, jo_out hd hk hl hn1]
  have I : ∀ k, k ∈ xs ++ [i] ∨ k = -1 → intoOf (putG g l i) (putL g l i) k = if k = -1 then i else if k = i then l else intoOf (upd g i (some (0, 0))) l k := fun k hk => by
    rw [putG, putL, jo_into hd2 hk (.inr rfl) hn1, jo_into hd hk hi1 hn1]
  refine ⟨?_, ?_, ?_, ?_⟩
  · rw [List.nodup_append]
    refine ⟨h.nd, by simp, ?_⟩
    intro a ha b hb e
    simp only [List.mem_singleton] at hb
    exact hi (by rw [← hb, ← e]; exact ha)
  · intro x hx
    rcases List.mem_append.1 hx with hx | hx
    · exact h.rng x hx
    · simp at hx; subst hx; exact hr
  · intro k
    rw [putG, joG_dom]
    exact hd2 k
  · have hc := h.ch
    rw [← List.cons_append, hp, List.append_assoc, List.singleton_append, Ch.app] at hc
    rw [show (-1 : Int) :: (xs ++ [i] ++ [-1]) = p ++ l :: [i, -1] by rw [List.append_assoc, ← List.cons_append, hp]; simp, Ch.app]
    have hnd' := hnd
    rw [hp, List.nodup_append] at hnd'
    refine ⟨Ch.congr (fun x hx => ?_) (fun x hx => ?_) hc.1, ?_, ?_, ?_, ?_, trivial⟩
    · rw [List.dropLast_concat] at hx
      have hxl : x ≠ l := fun e => hnd'.2.2 x hx l (by simp) e
      have hxm : x ∈ -1 :: xs := by rw [hp]; simp [hx]
      have hxi : x ≠ i := by
        rintro rfl
        rcases List.mem_cons.1 hxm with e | e
        · omega
        · exact hi e
      rw [O x (by rcases List.mem_cons.1 hxm with e | e; exact .inr e; exact .inl (by simp [e])), if_neg hxi, if_neg hxl, outOf, upd_ne hxi]; rfl
    · rw [← hp, List.tail_cons] at hx
      have hxi : x ≠ i := fun e => hi (e ▸ hx)
      have hx1 : x ≠ -1 := fun e => hneg (e ▸ hx)
      rw [I x (.inl (by simp [hx])), if_neg hx1, if_neg hxi, intoOf, upd_ne hxi]; rfl
    · rw [O l hl, if_neg hli, if_pos rfl]
    · rw [I i hi1, if_neg (by omega), if_pos rfl]
    · rw [O i hi1, if_pos rfl]
    · rw [I (-1) (.inr rfl), if_pos rfl]

/-! ### One less -/
def dropG (g : Gs) (i : Int) (x : Int × Int) : Gs := joG (upd g i none) x.1 x.2
def dropF (g : Gs) (f i : Int) (x : Int × Int) : Int := joF (upd g i none) f x.1 x.2
def dropL (g : Gs) (l i : Int) (x : Int × Int) : Int := joL (upd g i none) l x.1 x.2
theorem Lk.drop {g : Gs} {f l : Int} {p q : List Int} {i : Int} (h : Lk g f l (p ++ i :: q)) {x : Int × Int} (hx : g i = .some x) : Lk (dropG g i x) (dropF g f i x) (dropL g l i x) (p ++ q) ∧ I64b x.1 ∧ I64b x.2 := by
  obtain ⟨p', a, ep⟩ : ∃ p' a, -1 :: p = p' ++ [a] := ⟨_, _, (List.dropLast_concat_getLast (List.cons_ne_nil _ _)).symm⟩
  obtain ⟨b, q', eq⟩ : ∃ b q', q ++ [-1] = b :: q' := by cases q <;> exact ⟨_, _, rfl⟩
  have hnd := h.nd
  rw [List.nodup_append] at hnd
  obtain ⟨np, nq, npq⟩ := hnd
  rw [List.nodup_cons] at nq
  have hneg := h.neg
  simp only [List.mem_append, List.mem_cons, not_or] at hneg
  have hi : I64b i := by have := h.rng i (by simp); unfold I64b; omega
  have hip : i ∉ p := fun hm => npq i hm i (by simp) rfl
  have hdom : ∀ k, (upd g i none k).isSome = true ↔ k ∈ p ++ q := fun k => by
    unfold upd
    by_cases e : k = i
    · subst e; simp [nq.1, hip]
    · have := h.dom k
      simp [e] at this
      simp [e, this]
  have hn1 : (-1 : Int) ∉ p ++ q := by simp [hneg.1, hneg.2.2]
  have hap : a ∈ p ∨ a = -1 := by
    have : a ∈ -1 :: p := by rw [ep]; simp
    rcases List.mem_cons.1 this with e | e
    · exact .inr e
    · exact .inl e
  have hbq : b ∈ q ∨ b = -1 := by
    have : b ∈ q ++ [-1] := by rw [eq]; simp
    simpa using this
  have hc := h.ch
  rw [show (-1 : Int) :: (p ++ i :: q ++ [-1]) = p' ++ a :: i :: b :: q' by rw [List.append_assoc, List.cons_append, eq, ← List.cons_append, ep]; simp, Ch.app] at hc
  obtain ⟨c1, c2, c3, c4, c5, c6⟩ := hc
  have e1 : x.1 = a := by rw [intoOf, hx] at c3; exact c3
  have e2 : x.2 = b := by rw [outOf, hx] at c4; exact c4
  have ha : a ∈ p ++ q ∨ a = -1 := hap.imp (fun h => by simp [h]) id
  have hb : b ∈ p ++ q ∨ b = -1 := hbq.imp (fun h => by simp [h]) id
  have hra : I64b a := by
    rcases hap with h1 | h1
    · have := h.rng a (by simp [h1]); unfold I64b; omega
    · subst h1; unfold I64b; omega
  have hrb : I64b b := by
    rcases hbq with h1 | h1
    · have := h.rng b (by simp [h1]); unfold I64b; omega
    · subst h1; unfold I64b; omega
  have O : ∀ k, k ∈ p ++ q ∨ k = -1 → outOf (dropG g i x) (dropF g f i x) k = if k = a then b else outOf (upd g i none) f k := fun k hk => by
    rw [dropG, dropF, e1, e2, jo_out hdom hk ha hn1]
  have I : ∀ k, k ∈ p ++ q ∨ k = -1 → intoOf (dropG g i x) (dropL g l i x) k = if k = b then a else intoOf (upd g i none) l k := fun k hk => by
    rw [dropG, dropL, e1, e2, jo_into hdom hk hb hn1]
  have npp : (-1 :: p).Nodup := List.nodup_cons.2 ⟨hneg.1, np⟩
  rw [ep, List.nodup_append] at npp
  have nqq : (q ++ [-1]).Nodup := by
    rw [List.nodup_append]
    refine ⟨nq.2, by simp, ?_⟩
    intro y hy z hz e
    simp only [List.mem_singleton] at hz
    exact hneg.2.2 (by rw [← hz, ← e]; exact hy)
  rw [eq, List.nodup_cons] at nqq
  refine ⟨⟨?_, ?_, ?_, ?_⟩, by rw [e1]; exact hra, by rw [e2]; exact hrb⟩
  · rw [List.nodup_append]
    exact ⟨np, nq.2, fun y hy z hz => npq y hy z (by simp [hz])⟩
  · intro y hy
    exact h.rng y (by rcases List.mem_append.1 hy with h1 | h1 <;> simp [h1])
  · intro k
    rw [dropG, joG_dom]
    exact hdom k
  · rw [show (-1 : Int) :: (p ++ q ++ [-1]) = p' ++ a :: b :: q' by rw [List.append_assoc, eq, ← List.cons_append, ep]; simp, Ch.app]
    refine ⟨Ch.congr (fun y hy => ?_) (fun y hy => ?_) c1, ?_, ?_, Ch.congr (fun y hy => ?_) (fun y hy => ?_) c6⟩
    · rw [List.dropLast_concat] at hy
      have hya : y ≠ a := fun e => npp.2.2 y hy a (by simp) e
      have hym : y ∈ -1 :: p := by rw [ep]; simp [hy]
      have hym' : y ∈ p ++ q ∨ y = -1 := by rcases List.mem_cons.1 hym with e | e; exact .inr e; exact .inl (by simp [e])
      have hyi : y ≠ i := by
        rintro rfl
        rcases List.mem_cons.1 hym with e | e
        · exact hneg.2.1 e.symm
        · exact hip e
      rw [O y hym', if_neg hya, outOf, upd_ne hyi]; rfl
    · rw [← ep, List.tail_cons] at hy
      have hyb : y ≠ b := by
        rintro rfl
        rcases hbq with h1 | h1
        · exact npq y hy y (by simp [h1]) rfl
        · subst h1; exact hneg.1 hy
      have hyi : y ≠ i := fun e => hip (e ▸ hy)
      rw [I y (.inl (by simp [hy])), if_neg hyb, intoOf, upd_ne hyi]; rfl
    · rw [O a ha, if_pos rfl]
    · rw [I b hb, if_pos rfl]
    · have hyq : y ∈ q := by rw [← eq, List.dropLast_concat] at hy; exact hy
      have hya : y ≠ a := by
        rintro rfl
        rcases hap with h1 | h1
        · exact npq y h1 y (by simp [hyq]) rfl
        · subst h1; exact hneg.2.2 hyq
      have hyi : y ≠ i := fun e => nq.1 (e ▸ hyq)
      rw [O y (.inl (by simp [hyq])), if_neg hya, outOf, upd_ne hyi]; rfl
    · rw [List.tail_cons] at hy
      have hyb : y ≠ b := fun e => nqq.1 (e ▸ hy)
      have hyq : y ∈ q ++ [-1] := by rw [eq]; simp [hy]
      have hym : y ∈ p ++ q ∨ y = -1 := by
        rcases List.mem_append.1 hyq with h1 | h1
        · exact .inl (by simp [h1])
        · exact .inr (by simpa using h1)
      have hyi : y ≠ i := by
        rintro rfl
        rcases List.mem_append.1 hyq with h1 | h1
        · exact nq.1 h1
        · simp at h1; exact hneg.2.1 h1.symm
      rw [I y hym, if_neg hyb, intoOf, upd_ne hyi]; rfl
end Go.Proofs.Ytkpnkhakjgfgfaa.Lq
