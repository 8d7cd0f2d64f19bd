/-
  A scheduler in memory: a block of a pointer to its row and of four numbers; what it is as a pure state; what each call leaves of it; pure.
-/
import Derived.Test.YtfdinodcbeipcaaFPush
import Derived.Test.YtfdinodcbeipcaaFCopy
namespace Go.Proofs.Ytfdinodcbeipcaa
open Go.RowKit

/-- What a scheduler is: who is ready, how many may be made, were made, live, are at work. -/
structure Ss where
  l : List Int
  m : Nat
  made : Nat
  live : Nat
  busy : Nat
def Ss.new (m : Nat) : Ss := ⟨[], m, 0, 0, 0⟩
def Ss.makeE (s : Ss) : Int := if s.made = s.m then 4 else 0
def Ss.makeV (s : Ss) : Int := if s.made = s.m then 0 else (s.made : Int)
def Ss.make (s : Ss) : Ss := if s.made = s.m then s else ⟨s.l ++ [(s.made : Int)], s.m, s.made + 1, s.live + 1, s.busy⟩
def Ss.what (s : Ss) : Int := if s.l ≠ [] then 1 else if 0 < s.busy then 2 else if 0 < s.live then 4 else 3
def Ss.first (s : Ss) : Int := s.l.head?.getD 0
def Ss.next (s : Ss) : Ss := if s.l = [] then s else ⟨s.l.tail, s.m, s.made, s.live, s.busy + 1⟩
def Ss.pushE (s : Ss) (k : Int) : Int := if k < 0 ∨ (s.made : Int) ≤ k then 2 else if k ∈ s.l then 9 else 0
def Ss.push (s : Ss) (k : Int) : Ss := if s.pushE k = 0 then ⟨s.l ++ [k], s.m, s.made, s.live, s.busy⟩ else s
def Ss.fewE (s : Ss) (ends : Bool) : Int := if s.busy = 0 ∨ (ends = true ∧ s.live = 0) then 3 else 0
def Ss.backE (s : Ss) (k : Int) : Int := if s.busy = 0 then 3 else s.pushE k
def Ss.back (s : Ss) (k : Int) : Ss := if s.backE k = 0 then ⟨s.l ++ [k], s.m, s.made, s.live, s.busy - 1⟩ else s
def Ss.leave (s : Ss) : Ss := if s.busy = 0 then s else ⟨s.l, s.m, s.made, s.live, s.busy - 1⟩
def Ss.fin (s : Ss) : Ss := if s.busy = 0 ∨ s.live = 0 then s else ⟨s.l, s.m, s.made, s.live - 1, s.busy - 1⟩

/-- What holds of each scheduler that was made by New. -/
structure Ss.Good (s : Ss) : Prop where
  one : 1 ≤ s.m
  most : s.m ≤ 32
  made : s.made ≤ s.m
  live : s.live ≤ s.made
  rng : ∀ x ∈ s.l, x < (s.made : Int)
  busy : s.busy ≤ 1000000000

theorem nodup_len : ∀ (n : Nat) (l : List Int), l.Nodup → (∀ x ∈ l, 0 ≤ x ∧ x < (n : Int)) → l.length ≤ n
  | 0, l, _, h => by
    cases l with
    | nil => simp
    | cons x t => have := h x (by simp); omega
  | n + 1, l, hn, h => by
    by_cases hm : (n : Int) ∈ l
    · have h2 := nodup_len n (l.erase (n : Int)) (hn.erase _) (fun x hx => by
        have h3 := (List.Nodup.mem_erase_iff hn).1 hx
        have := h x h3.2
        have := h3.1
        omega)
      have := List.length_erase_of_mem hm
      omega
    · have h2 := nodup_len n l hn (fun x hx => by
        have := h x hx
        have : x ≠ (n : Int) := fun e => hm (e ▸ hx)
        omega)
      omega

abbrev ptrO (B : Nat) : Value := .pointer (some ⟨B, 0, none⟩)
def cellsS (F : Nat) (s : Ss) : Array Value := #[ptrO F, .int .i64 (s.m : Int), .int .i64 (s.made : Int), .int .i64 (s.live : Int), .int .i64 (s.busy : Int)]

/-- In memory block S is the scheduler s, block F its row. -/
structure Scd (W : World) (S F : Nat) (s : Ss) : Prop where
  head : W.heap[S]? = some (.cells (cellsS F s) 54 (0, 0))
  row : Fif W F 32 s.l
  good : s.Good

section
variable {W W' : World} {S F : Nat} {s : Ss}
theorem Fif.typ {B m : Nat} {l : List Int} (h : Fif W B m l) : ∃ cs, W.heap[B]? = some (.cells cs 63 (0, 0)) := by
  obtain ⟨vs, f, hr, _⟩ := h.raw; exact ⟨_, hr.2⟩
theorem Scd.ltS (h : Scd W S F s) : S < W.heap.size := (Array.getElem?_eq_some_iff.1 h.head).1
theorem Scd.ltF (h : Scd W S F s) : F < W.heap.size := h.row.lt
theorem Scd.ne (h : Scd W S F s) : S ≠ F := by obtain ⟨cs, hr⟩ := h.row.typ; exact type_ne h.head hr (by decide)
theorem Scd.c0 (h : Scd W S F s) : W.cell? ⟨S, 0, none⟩ = some (ptrO F) := by simp [World.cell?, h.head, cellsS]
theorem Scd.c1 (h : Scd W S F s) : W.cell? ⟨S, 1, none⟩ = some (.int .i64 (s.m : Int)) := by simp [World.cell?, h.head, cellsS]
theorem Scd.c2 (h : Scd W S F s) : W.cell? ⟨S, 2, none⟩ = some (.int .i64 (s.made : Int)) := by simp [World.cell?, h.head, cellsS]
theorem Scd.c3 (h : Scd W S F s) : W.cell? ⟨S, 3, none⟩ = some (.int .i64 (s.live : Int)) := by simp [World.cell?, h.head, cellsS]
theorem Scd.c4 (h : Scd W S F s) : W.cell? ⟨S, 4, none⟩ = some (.int .i64 (s.busy : Int)) := by simp [World.cell?, h.head, cellsS]
theorem Scd.frozen (h : Scd W S F s) (k : Nat) : W.frozen? ⟨S, k, none⟩ = false := by simp [World.frozen?, h.head]

/-- What turns neither block leaves it. -/
theorem Scd.but (h : Scd W S F s) {T : List Nat} (hb : But T W W') (hS : S ∉ T) (hF : F ∉ T) : Scd W' S F s :=
  ⟨(hb.block S h.ltS hS).trans h.head, h.row.but hb hF, h.good⟩
theorem Scd.fresh (h : Scd W S F s) (hb : But [] W W') : Scd W' S F s := h.but hb (by simp) (by simp)
theorem Scd.drew (h : Scd W S F s) : Scd W.drew S F s := h.fresh (But.refl [] W).drew
theorem Scd.drewN (h : Scd W S F s) (n : Nat) : Scd (W.drewN n) S F s := h.fresh ((But.refl [] W).drewN n)
theorem Scd.later (h : Scd W S F s) (hb : Below W.heap.size W W') : Scd W' S F s := h.fresh (But.of_below hb [])
/-- What turns new blocks alone. -/
theorem Scd.own (h : Scd W S F s) {T : List Nat} (hb : But T W W') (hT : ∀ x ∈ T, W.heap.size ≤ x) : Scd W' S F s :=
  h.but hb (fun hm => by have := hT _ hm; have := h.ltS; omega) (fun hm => by have := hT _ hm; have := h.ltF; omega)

/-- Its own cells, before the pure state is named: k its numbers. -/
structure Raw (W : World) (S F m made live busy : Nat) (l : List Int) : Prop where
  head : W.heap[S]? = some (.cells #[ptrO F, .int .i64 (m : Int), .int .i64 (made : Int), .int .i64 (live : Int), .int .i64 (busy : Int)] 54 (0, 0))
  row : Fif W F 32 l
theorem Scd.raw (h : Scd W S F s) : Raw W S F s.m s.made s.live s.busy s.l := ⟨h.head, h.row⟩
theorem Raw.scd {m made live busy : Nat} {l : List Int} (h : Raw W S F m made live busy l) (hg : (Ss.mk l m made live busy).Good) : Scd W S F ⟨l, m, made, live, busy⟩ := ⟨h.head, h.row, hg⟩
variable {m made live busy : Nat} {l : List Int}
theorem Raw.lt (h : Raw W S F m made live busy l) : S < W.heap.size := (Array.getElem?_eq_some_iff.1 h.head).1
theorem Raw.ne (h : Raw W S F m made live busy l) : S ≠ F := by obtain ⟨cs, hr⟩ := h.row.typ; exact type_ne h.head hr (by decide)
theorem Raw.c0 (h : Raw W S F m made live busy l) : W.cell? ⟨S, 0, none⟩ = some (ptrO F) := by simp [World.cell?, h.head]
theorem Raw.c1 (h : Raw W S F m made live busy l) : W.cell? ⟨S, 1, none⟩ = some (.int .i64 (m : Int)) := by simp [World.cell?, h.head]
theorem Raw.c2 (h : Raw W S F m made live busy l) : W.cell? ⟨S, 2, none⟩ = some (.int .i64 (made : Int)) := by simp [World.cell?, h.head]
theorem Raw.c3 (h : Raw W S F m made live busy l) : W.cell? ⟨S, 3, none⟩ = some (.int .i64 (live : Int)) := by simp [World.cell?, h.head]
theorem Raw.c4 (h : Raw W S F m made live busy l) : W.cell? ⟨S, 4, none⟩ = some (.int .i64 (busy : Int)) := by simp [World.cell?, h.head]
theorem Raw.frozen (h : Raw W S F m made live busy l) (k : Nat) : W.frozen? ⟨S, k, none⟩ = false := by simp [World.frozen?, h.head]
theorem Raw.rowSet (h : Raw W S F m made live busy l) (k : Nat) (v : Value) : Fif (W.setCell ⟨S, k, none⟩ v) F 32 l :=
  h.row.but ((But.refl [S] W).set (p := ⟨S, k, none⟩) (by simp) v) (by simpa using h.ne.symm)
theorem Raw.set2 (h : Raw W S F m made live busy l) {x : Int} {n : Nat} (hx : x = (n : Int)) : Raw (W.setCell ⟨S, 2, none⟩ (.int .i64 x)) S F m n live busy l := by
  subst hx; exact ⟨heap_set_same _ h.head, h.rowSet _ _⟩
theorem Raw.set3 (h : Raw W S F m made live busy l) {x : Int} {n : Nat} (hx : x = (n : Int)) : Raw (W.setCell ⟨S, 3, none⟩ (.int .i64 x)) S F m made n busy l := by
  subst hx; exact ⟨heap_set_same _ h.head, h.rowSet _ _⟩
theorem Raw.set4 (h : Raw W S F m made live busy l) {x : Int} {n : Nat} (hx : x = (n : Int)) : Raw (W.setCell ⟨S, 4, none⟩ (.int .i64 x)) S F m made live n l := by
  subst hx; exact ⟨heap_set_same _ h.head, h.rowSet _ _⟩
/-- Its row was turned. -/
theorem Raw.turn (h : Raw W S F m made live busy l) {xs : List Int} (hr : Fif W' F 32 xs) (hb : But [F] W W') : Raw W' S F m made live busy xs :=
  ⟨(hb.block S h.lt (by simpa using h.ne)).trans h.head, hr⟩
theorem Raw.fresh (h : Raw W S F m made live busy l) (hb : But [] W W') : Raw W' S F m made live busy l := h.turn (h.row.fresh hb) (hb.mono (by simp))
theorem Raw.drewN (h : Raw W S F m made live busy l) (n : Nat) : Raw (W.drewN n) S F m made live busy l := h.fresh ((But.refl [] W).drewN n)
theorem Raw.drew (h : Raw W S F m made live busy l) : Raw W.drew S F m made live busy l := h.fresh (But.refl [] W).drew
end

/-- Both blocks of a scheduler may have been turned. -/
theorem turnF {S F : Nat} {w w' : World} (hb : But [F] w w') : But [S, F] w w' := hb.mono (by simp_all)
theorem turn0 {S F : Nat} {w w' : World} (hb : But [] w w') : But [S, F] w w' := hb.mono (by simp)
theorem But.cellS {S F : Nat} {w w' : World} (h : But [S, F] w w') (k : Nat) (v : Value) : But [S, F] w (w'.setCell ⟨S, k, none⟩ v) := h.set (p := ⟨S, k, none⟩) (.inl (by simp)) v

section
variable {s : Ss}
theorem Ss.push_zero {k : Int} (h : s.pushE k = 0) : 0 ≤ k ∧ k < (s.made : Int) ∧ k ∉ s.l := by
  unfold Ss.pushE at h
  by_cases h1 : k < 0 ∨ (s.made : Int) ≤ k
  · rw [if_pos h1] at h; omega
  · rw [if_neg h1] at h
    by_cases h2 : k ∈ s.l
    · rw [if_pos h2] at h; omega
    · exact ⟨by omega, by omega, h2⟩
/-- There is room in the row for each one that was made. -/
theorem room_any (hn : s.l.Nodup) (hr : ∀ x ∈ s.l, 0 ≤ x ∧ x < 32) {k : Int} (h1 : 0 ≤ k) (h2 : k < 32) (hk : k ∉ s.l) : pushE 32 s.l k = 0 ∧ pushX 32 s.l k = s.l ++ [k] := by
  have hl : (s.l ++ [k]).length ≤ 32 := nodup_len 32 _ (by rw [List.nodup_append]; exact ⟨hn, by simp, fun a ha b hb e => by simp at hb; subst hb; subst e; exact hk ha⟩) (fun x hx => by
    rcases List.mem_append.1 hx with hx | hx
    · exact hr x hx
    · rw [List.mem_singleton.1 hx]; omega)
  simp only [List.length_append, List.length_singleton] at hl
  have h3 : ¬ (k < 0 ∨ 32 ≤ k) := by omega
  have h4 : ¬ s.l.length = 32 := by omega
  unfold pushE pushX
  rw [if_neg h3, if_neg h3, if_neg hk, if_neg hk, if_neg h4, if_neg h4]
  exact ⟨rfl, rfl⟩
end
end Go.Proofs.Ytfdinodcbeipcaa
