/-
  A loop over an iterator that may go on for ever: it is the body that ends it. The iterator is told what holds at each of its calls (B), so that it can count the rounds by it; it may write to blocks of its own.
-/
import Derived.RangeFuncNested
import Derived.RangeFuncBound
import Derived.RangeFuncCalls
import Derived.RangeFuncLeaves
import Derived.RangeFuncBox
import Derived.Shelf.Abstract
import Derived.Shelf.RegionOpen
import Derived.OwnWalkIn
import Derived.TacticsInMore
import Derived.LoopNIn
import Derived.LoopIn
import Derived.WalkSmall
import Derived.Test.YtplajidagpimdaaHStep
namespace Go.Proofs.Ytplajidagpimdaa
open Go.RowKit Go.Shelf

/-- What an iterator owes to a caller whose rounds go on only while B holds. -/
def SeqUpto {α : Type} (F : Fence) (n : Nat) (P : Program) (g : Nat) (lb : Array Value) (encs : α → Array Value) (Kp : World → World → Prop) (B : List α → World → Prop) (S Sp : List α → Prop) (w : World) : Prop :=
  ∀ (l : Nat) (J Jx : List α → World → Prop) (W : World), Below w.heap.size w W →
    (∀ s X Y, J s X → Below W.heap.size X Y → J s Y) → (∀ s X Y, Jx s X → Below W.heap.size X Y → Jx s Y) → (∀ s X, J s X → B s X) →
    (∀ s x X, J s X → YieldAt F (n - 1) P l (encs x) X fun e Y => (e = .returned (.bool true) ∧ J (s ++ [x]) Y ∧ Kp X Y) ∨ (e = .returned (.bool false) ∧ Jx (s ++ [x]) Y)) →
    J [] W →
    CallsIn F n P g (#[.func (.yield l) #[] #[]] ++ lb) W fun e Y => (∃ v, e = .returned v) ∧ ((∃ s, S s ∧ J s Y) ∨ (∃ s, Sp s ∧ Jx s Y))

theorem below_obj {n : Nat} (W : World) {l : Nat} (o : Obj) (hl : n ≤ l) : Below n W (W.putObj l o) :=
  ⟨rfl, rfl, rfl, by simp [World.putObj], fun k hk => World.putObj_heap_other (by omega)⟩

theorem range_upto {F : Fence} {n : Nat} {P : Program} {α : Type} {g : Operand} {ps : Array Tmp} {assign body : Code} {Q : Exit → Act → World → Prop} {a : Act} {w : World}
    (hro : F.round = none) (h1 : 1 ≤ n) {gf : Nat} {lb : Array Value} (hg : a.eval g = .func (.func gf) #[] lb) (hFg : F.fn gf) (eg : ∀ args w, (callFunc gf args).run P w = .ok (.enter gf args) w)
    {encs : α → Array Value} {Kp : World → World → Prop} {B : List α → World → Prop} {S Sp : List α → Prop} (hseq : SeqUpto F (n - 1) P gf lb encs Kp B S Sp w)
    (hKt : ∀ {X Y Z : World}, Kp X Y → Kp Y Z → Kp X Z) (hKb : ∀ (W : World) (l : Nat) (o o' : Obj), w.heap.size ≤ l → W.heap[l]? = some o → o.isCells = false → o.isWalk = false → Kp W (W.putObj l o'))
    (hps : ∀ x, (encs x).size = ps.size) (I : List α → World → Prop) (Ix : Code → List α → World → Prop)
    (hI : ∀ s X Y, I s X → Below w.heap.size X Y → I s Y) (hIx : ∀ c s X Y, Ix c s X → Below w.heap.size X Y → Ix c s Y) (hIB : ∀ s X, I s X → B s X) (h0 : I [] w)
    (Ax : α → Act → World → Prop) (hAx : ∀ x a' X (l : Nat) (o o' : Obj), Ax x a' X → X.heap[l]? = some o → o.isCells = false → Ax x a' (X.putObj l o'))
    (hassign : ∀ (l : Nat) (s : List α) (x : α) (W : World) (K : Act → World → Prop), I s W → (∀ a' W', KeepsFrom w.heap.size W W' → Kp W W' → I s W' → Ax x a' W' → K a' W') →
      assign.wpIn (F.inRound l) (n - 1 - 1) P (Exit.then K (fun _ _ _ => False)) { tmps := (ps.zip (encs x)).foldl (fun t (p, v) => t.setIfInBounds p v) a.tmps, defers := [] } W)
    (hbody : ∀ (l : Nat) (s : List α) (x : α) (a' : Act) (W : World), I s W → Ax x a' W → body.wpIn (F.inRound l) (n - 1 - 1) P (ownPostG w.heap.size Kp I Ix (s ++ [x]) W) a' W)
    (hdone : ∀ (D : Nat) (s : List α) (W : World), w.heap.size ≤ D → S s → I s W → W.heap[D]? = some (.deferred (some [])) → Q .normal { a with defers := { target := .collected D, args := #[] } :: a.defers } W)
    (hstop : ∀ (D : Nat) (c : Code) (s : List α) (W : World), w.heap.size ≤ D → Sp s → Ix c s W → W.heap[D]? = some (.deferred (some [])) → c.wpIn F n P Q { a with defers := { target := .collected D, args := #[] } :: a.defers } W) :
    (Code.rangeFunc g ps assign body).wpIn F n P Q a w := by
  refine wpIn_rangeFunc fun fn hfn => ?_
  rw [hro]
  let rec0 : LoopState → Option Code → Loop := fun st pe => { state := st, pending := pe, fn, tmps := a.tmps, params := ps, assign, body, defers := w.heap.size }
  let Bk : LoopState → Option Code → World → Prop := fun st pe X => X.heap[w.heap.size + 1]? = some (.loop (rec0 st pe)) ∧ X.heap[w.heap.size]? = some (.deferred (some []))
  obtain ⟨W1, hW1⟩ : ∃ W1, W1 = (w.alloc (.deferred (some []))).alloc (.loop (rec0 .ready none)) := ⟨_, rfl⟩
  have sz : W1.heap.size = w.heap.size + 2 := by rw [hW1]; simp
  have bB : Below w.heap.size w W1 := by rw [hW1]; exact below2 w _ _
  have bk1 : Bk .ready none W1 := by
    refine ⟨?_, ?_⟩
    · rw [hW1]
      have := World.alloc_heap_new (w.alloc (.deferred (some []))) (.loop (rec0 .ready none))
      rwa [World.size_alloc] at this
    · rw [hW1]
      exact (Below.heap_alloc _ _ _ (by simp)).trans (World.alloc_heap_new w _)
  have bkB : ∀ {st pe X Y}, Bk st pe X → Below W1.heap.size X Y → Bk st pe Y := fun h hb => ⟨(hb.block _ (by omega)).trans h.1, (hb.block _ (by omega)).trans h.2⟩
  have bkP : ∀ {st pe st' pe' X}, Bk st pe X → Bk st' pe' (X.putObj (w.heap.size + 1) (.loop (rec0 st' pe'))) := fun h =>
    ⟨World.putObj_heap_same (Array.getElem?_eq_some_iff.1 h.1).1, (World.putObj_heap_other (by omega)).trans h.2⟩
  have low : ∀ {X Y}, Below W1.heap.size X Y → Below w.heap.size X Y := fun h => h.mono (by omega)
  refine ⟨w.heap.size + 1, [{ target := .collected w.heap.size, args := #[] }], W1, { target := .fn (.func gf) lb, args := #[.func (.yield (w.heap.size + 1)) #[] #[]] }, W1, gf,
    #[.func (.yield (w.heap.size + 1)) #[] #[]] ++ lb, W1, by rw [hW1]; exact run_enterLoop_outer _ _ _ _ _, by simp only [resolve, hg]; simp [go_sem], fun f' hf' => ?_, by simp [invoke, go_sem, eg], fun _ => h1, ?_⟩
  · simp [Target.leads] at hf'
    subst hf'
    exact hFg
  refine (hseq (w.heap.size + 1) (fun s X => I s X ∧ Bk .ready none X) (fun s X => ∃ c, Ix c s X ∧ Bk .done (some c) X) W1 bB
    (fun s X Y h hb => ⟨hI s X Y h.1 (low hb), bkB h.2 hb⟩) (fun s X Y h hb => by obtain ⟨c, h2, h3⟩ := h; exact ⟨c, hIx c s X Y h2 (low hb), bkB h3 hb⟩) (fun s X h => hIB s X h.1) ?_ ⟨hI _ _ _ h0 bB, bk1⟩).mono ?_
  · rintro s x X ⟨hi, hk⟩
    refine ⟨fn, _, assign, body, run_yield (r := rec0 .ready none) hk.1 (hps x), roundIn_of_wpIn hfn (hassign _ s x X _ hi fun a' Xa hka hpa hia hax => ?_)⟩
    have hk' : Bk .ready none Xa := ⟨hka.same _ _ (by omega) hk.1 rfl, hka.same _ _ (Nat.le_refl _) hk.2 rfl⟩
    refine ⟨_, run_beginRound (r := rec0 .ready none) hk'.1 rfl, ?_⟩
    have hkb : Bk .busy none (Xa.putObj (w.heap.size + 1) (.loop (rec0 .busy none))) := bkP hk'
    have hpb : Kp X (Xa.putObj (w.heap.size + 1) (.loop (rec0 .busy none))) := hKt hpa (hKb _ _ _ _ (by omega) hk'.1 rfl rfl)
    refine wpIn_mono (hbody _ s x a' _ (hI _ _ _ hia (below_obj _ _ (by omega))) (hAx _ _ _ _ _ _ hax hk'.1 rfl)) ?_
    have fin : ∀ (jump : Option Code) (Z : World), KeepsFrom w.heap.size (Xa.putObj (w.heap.size + 1) (.loop (rec0 .busy none))) Z → Bk .busy none Z ∧
        (Instr.endRound (w.heap.size + 1) jump).run P Z = .ok (.bool jump.isNone) (Z.putObj (w.heap.size + 1) (.loop (rec0 (if jump.isNone then .ready else .done) jump))) := fun jump Z hz => by
      have hz' : Bk .busy none Z := ⟨hz.same _ _ (by omega) hkb.1 rfl, hz.same _ _ (Nat.le_refl _) hkb.2 rfl⟩
      exact ⟨hz', run_endRound (r := rec0 .busy none) jump hz'.1⟩
    rintro e a3 Z hp
    cases e with
    | normal =>
      obtain ⟨hz, hpz, hiz⟩ := hp
      obtain ⟨hzk, hr⟩ := fin none Z hz
      exact ⟨_, _, hr, .inl ⟨rfl, ⟨hI _ _ _ hiz (below_obj _ _ (by omega)), bkP hzk⟩, hKt hpb (hKt hpz (hKb _ _ _ _ (by omega) hzk.1 rfl rfl))⟩⟩
    | ret =>
      obtain ⟨hzk, hr⟩ := fin (some .ret) Z hp.1
      exact ⟨_, _, hr, .inr ⟨rfl, .ret, hIx _ _ _ _ hp.2 (below_obj _ _ (by omega)), bkP hzk⟩⟩
    | exit id =>
      obtain ⟨hzk, hr⟩ := fin (some (.exit id)) Z hp.1
      exact ⟨_, _, hr, .inr ⟨rfl, .exit id, hIx _ _ _ _ hp.2 (below_obj _ _ (by omega)), bkP hzk⟩⟩
    | goto t =>
      obtain ⟨hzk, hr⟩ := fin (some (.goto t)) Z hp.1
      exact ⟨_, _, hr, .inr ⟨rfl, .goto t, hIx _ _ _ _ hp.2 (below_obj _ _ (by omega)), bkP hzk⟩⟩
    | panic ch => exact hp.elim
    | outgrown => exact hp.elim
  · rintro e Y ⟨⟨v, rfl⟩, h | h⟩
    · obtain ⟨s, hS, hi, hk⟩ := h
      exact ⟨none, _, run_endLoop (r := rec0 .ready none) hk.1 (by simp [rec0]), hdone _ s _ (Nat.le_refl _) hS (hI _ _ _ hi (below_obj _ _ (by omega))) ((World.putObj_heap_other (by omega)).trans hk.2)⟩
    · obtain ⟨s, hS, c, hi, hk⟩ := h
      exact ⟨some c, _, run_endLoop (r := rec0 .done (some c)) hk.1 (by simp [rec0]), hstop _ c s _ (Nat.le_refl _) hS (hIx _ _ _ _ hi (below_obj _ _ (by omega))) ((World.putObj_heap_other (by omega)).trans hk.2)⟩
end Go.Proofs.Ytplajidagpimdaa
