/-
  Steps in memory; what the law GuardPlays lays first.
-/
import Derived.Maps.AppendAt
import Derived.Test.YtbjfongjdlankaaUVDuel
import Derived.Test.YtbjfongjdlankaaULive
namespace Go.Proofs.Ytbjfongjdlankaa
open Go.RowKit

/-- The rest of any number, as int(uint(k) % m) has it. -/
theorem mod_row (k : Int) {m : Int} (h1 : 0 < m) (h2 : m ≤ 64) : ∃ a : Nat, (a : Int) < m ∧ wrap64 ((IntKind.u64.wrap k).tmod m) = (a : Int) := by
  have h0 : 0 ≤ IntKind.u64.wrap k := by rw [IntKind.wrap_u64]; omega
  have h3 := Int.emod_lt_of_pos (IntKind.u64.wrap k) h1
  have h4 := Int.emod_nonneg (IntKind.u64.wrap k) (Int.ne_of_gt h1)
  refine ⟨((IntKind.u64.wrap k) % m).toNat, by omega, ?_⟩
  rw [Int.tmod_eq_emod_of_nonneg h0, IntWalk.wrap64_in _ (by omega)]
  omega

/-- A step: what is done, by which guard, with which row. -/
structure Stp where
  d : Int
  k : Int
  l : List Int
/-- A step in memory: its row's slice starts at a. -/
structure StepAt (w : World) (b o : Nat) (s : Stp) (a : Option Addr) (kap : Nat) : Prop where
  d : w.cell? ⟨b, o, none⟩ = some (.int .i64 s.d)
  k : w.cell? ⟨b, o + 1, none⟩ = some (.int .i64 s.k)
  l : w.cell? ⟨b, o + 2, none⟩ = some (.slice a s.l.length kap)
  row : RowA w a s.l
/-- n steps from there on, none of which has a row that is longer than memory. -/
def Steps (w : World) (p : Option Addr) (n : Nat) (ss : Nat → Stp) : Prop := ∀ j, j < n → (∃ b off, p = some ⟨b, off, none⟩ ∧ ∃ a kap, StepAt w b (off + j * 3) (ss j) a kap) ∧ (ss j).l.length ≤ 17592186044416

theorem step_cells {W : World} {D : Nat} {x y z : Value} {t : TypeId} (h : W.heap[D]? = some (.cells #[x, y, z] t (0, 0))) : W.cell? ⟨D, 0, none⟩ = some x ∧ W.cell? ⟨D, 1, none⟩ = some y ∧ W.cell? ⟨D, 2, none⟩ = some z := by
  simp [World.cell?, h]
theorem neat_upd {n a : Nat} {qs : Nat → Gs} {s : Gs} (h : Hid (∀ i, i < n → Neat (qs i))) (hs : Hid (Neat s)) : Hid (∀ i, i < n → Neat (upd qs a s i)) := Lib.hid fun i hi => by
  by_cases e : i = a
  · subst e; rw [upd_same]; exact hs.out
  · rw [upd_ne _ _ e]; exact h.out i hi
theorem rows_le {ss : Nat → Stp} {i : Nat} (h : ∀ j, j < i → (ss j).l.length ≤ 17592186044416) : tot (fun j => (ss j).l.length) i ≤ 17592186044416 * i := tot_le i h
theorem row_le {ss : Nat → Stp} {i n : Nat} (hi : i < n) : (ss i).l.length ≤ tot (fun j => (ss j).l.length) n := tot_pos (f := fun j => (ss j).l.length) n hi

theorem infoP1 : (Try.prog.info? 41).map (fun i => (i.zero, i.size, i.bytes)) = some (some (.pointer none), 1, 8) := by kernel_rfl
theorem infoP2 : (Try.prog.info? 45).map (fun i => (i.zero, i.size, i.bytes)) = some (some (.pointer none), 1, 8) := by kernel_rfl
theorem PtrN.zero (gs : Nat → Nat) : PtrN 0 gs = fun _ => .pointer none := by funext k; rw [PtrN, if_neg (by omega)]

/-- The document's cells and locks, as the law lays them. -/
theorem ref_first {W W1 : World} (hg : W.grownBy W1 none) (ho : W1.ownsRow W.heap.size 33 1 (.slice (some ⟨W.heap.size, 0, none⟩) 20 20) 20 (madeCells (Value.int .u64 0).cells (20 * 1)).toList) :
    RefC ((W1.alloc (.cells #[.slice (some ⟨W.heap.size, 0, none⟩) 20 20, .int .u64 0] 35)).alloc (.cells #[.pointer (some ⟨W1.heap.size, 0, none⟩), .int .i64 4, .int .i64 6] 38)) W1.heap.size W.heap.size zeros 0
    ∧ RefL ((W1.alloc (.cells #[.slice (some ⟨W.heap.size, 0, none⟩) 20 20, .int .u64 0] 35)).alloc (.cells #[.pointer (some ⟨W1.heap.size, 0, none⟩), .int .i64 4, .int .i64 6] 38)) (W1.heap.size + 1) W1.heap.size 4 6
    ∧ But [] W ((W1.alloc (.cells #[.slice (some ⟨W.heap.size, 0, none⟩) 20 20, .int .u64 0] 35)).alloc (.cells #[.pointer (some ⟨W1.heap.size, 0, none⟩), .int .i64 4, .int .i64 6] 38)) := by
  rw [madeU64] at ho
  have hg1 := But.of_none hg []
  have hg2 := hg1.alloc (.cells #[.slice (some ⟨W.heap.size, 0, none⟩) 20 20, .int .u64 0] 35)
  have hg3 := hg2.alloc (.cells #[.pointer (some ⟨W1.heap.size, 0, none⟩), .int .i64 4, .int .i64 6] 38)
  have x1 := World.alloc_heap_new W1 (.cells #[.slice (some ⟨W.heap.size, 0, none⟩) 20 20, .int .u64 0] 35)
  have x2 := World.alloc_heap_new (W1.alloc (.cells #[.slice (some ⟨W.heap.size, 0, none⟩) 20 20, .int .u64 0] 35)) (.cells #[.pointer (some ⟨W1.heap.size, 0, none⟩), .int .i64 4, .int .i64 6] 38)
  rw [World.size_alloc] at x2
  refine ⟨⟨⟨20, (Below.heap_alloc _ _ _ (by simp)).trans x1, ?_⟩, fun x hx => ?_, by omega, by decide⟩, ⟨x2, by omega, by omega⟩, hg3⟩
  · have r1 := (ho.alloc (.cells #[.slice (some ⟨W.heap.size, 0, none⟩) 20 20, .int .u64 0] 35)).alloc (.cells #[.pointer (some ⟨W1.heap.size, 0, none⟩), .int .i64 4, .int .i64 6] 38)
    exact ⟨r1.1, r1.2.imp id fun ⟨a, b, d, e1, _, r⟩ => ⟨a, b, d, e1, Nat.zero_le _, r⟩⟩
  · rw [List.eq_of_mem_replicate hx]; omega

/-- One guard more, and one of the document's, and both stand in their rows. -/
theorem Duel.more {w0 W W1 : World} {L P Q B V Y M T U n c d G : Nat} {gs rs : Nat → Nat} {ss us : Nat → Gs} {vs ws : List Nat} {a : Option Addr} {cap : Nat} (h : Duel w0 W L P Q B V Y M T U n gs rs ss us vs ws c d) (hg : Gd W1 G L a cap Gs.none) (hb : But [] W W1) (hG : W.heap.size ≤ G) :
    Duel w0 (((W1.setCell ⟨T, n, none⟩ (.pointer (some ⟨G, 0, none⟩))).alloc (.cells #[.pointer (some ⟨Y, 0, none⟩), .slice none 0 0, .int .i64 0, .int .u16 0, .bool false] 48)).setCell ⟨U, n, none⟩ (.pointer (some ⟨W1.heap.size, 0, none⟩))) L P Q B V Y M T U (n + 1) (upd gs n G) (upd rs n W1.heap.size) (upd ss n Gs.none) (upd us n Gs.none) vs ws c d := by
  have hD1 := h.fresh hb
  have hK1 := h.ks.more hg hb hG
  have hTU : T ≠ U := type_ne h.gt h.ut (by decide)
  have b2 := (But.refl [T] W1).set (p := ⟨T, n, none⟩) (.inl (by simp)) (.pointer (some ⟨G, 0, none⟩))
  have hT2 := hD1.gt.set n (.pointer (some ⟨G, 0, none⟩))
  rw [PtrN.more] at hT2
  have hU2 := hD1.ut.but b2 (by simpa using hTU.symm)
  have sz2 : (W1.setCell ⟨T, n, none⟩ (.pointer (some ⟨G, 0, none⟩))).heap.size = W1.heap.size := by simp [World.setCell]
  have b3 : But [T] W1 ((W1.setCell ⟨T, n, none⟩ (.pointer (some ⟨G, 0, none⟩))).alloc (.cells #[.pointer (some ⟨Y, 0, none⟩), .slice none 0 0, .int .i64 0, .int .u16 0, .bool false] 48)) := b2.alloc _
  have hN3 := World.alloc_heap_new (W1.setCell ⟨T, n, none⟩ (.pointer (some ⟨G, 0, none⟩))) (.cells #[.pointer (some ⟨Y, 0, none⟩), .slice none 0 0, .int .i64 0, .int .u16 0, .bool false] 48)
  rw [sz2] at hN3
  have n3 : But [] (W1.setCell ⟨T, n, none⟩ (.pointer (some ⟨G, 0, none⟩))) ((W1.setCell ⟨T, n, none⟩ (.pointer (some ⟨G, 0, none⟩))).alloc (.cells #[.pointer (some ⟨Y, 0, none⟩), .slice none 0 0, .int .i64 0, .int .u16 0, .bool false] 48)) := (But.refl [] _).alloc _
  have hT3 := hT2.but n3 (by simp)
  have hU3 := hU2.but n3 (by simp)
  have hK3 := hK1.but' b3 (by simpa using h.town.1) (Alien.cons hD1.gt (by decide) (Alien.nil _))
  have hrl3 := hD1.rl.but b3 (by simpa using type_ne hD1.rl.head hD1.gt (by decide))
  obtain ⟨g, hC, hgV⟩ := hD1.rc
  obtain ⟨k1, hM, -⟩ := hC.head
  obtain ⟨cs, z, hR⟩ := hC.row
  have hC3 := hC.but b3 (by simpa using type_ne hM hD1.gt (by decide)) (by simpa using type_ne hR hD1.gt (by decide))
  have hr3 : ∀ i, i < n → ∃ a cap, RefG _ (rs i) Y a cap (us i) := fun i hi => by
    obtain ⟨a2, cap2, hr⟩ := hD1.rg i hi
    exact ⟨a2, cap2, hr.but b3 (by simpa using type_ne hr.head hD1.gt (by decide)) (NotInts.cons hD1.gt (by decide) (NotInts.nil _))⟩
  generalize hW3 : (W1.setCell ⟨T, n, none⟩ (.pointer (some ⟨G, 0, none⟩))).alloc (.cells #[.pointer (some ⟨Y, 0, none⟩), .slice none 0 0, .int .i64 0, .int .u16 0, .bool false] 48) = W3 at *
  have hG3 : RefG W3 W1.heap.size Y none 0 Gs.none := ⟨hN3, RowT.nil _ _ _, Nat.le_refl _, Nat.zero_le _⟩
  have b4 := (But.refl [U] W3).set (p := ⟨U, n, none⟩) (.inl (by simp)) (.pointer (some ⟨W1.heap.size, 0, none⟩))
  have hU4 := hU3.set n (.pointer (some ⟨W1.heap.size, 0, none⟩))
  rw [PtrN.more] at hU4
  obtain ⟨k3, hM3, -⟩ := hC3.head
  obtain ⟨cs3, z3, hR3⟩ := hC3.row
  have hNU : NotInts W3 [U] := NotInts.cons hU3 (by decide) (NotInts.nil _)
  refine ⟨hK3.but' b4 (by simpa using h.town.2) (Alien.cons hU3 (by decide) (Alien.nil _)), hrl3.but b4 (by simpa using type_ne hrl3.head hU3 (by decide)), ⟨g, hC3.but b4 (by simpa using type_ne hM3 hU3 (by decide)) (by simpa using type_ne hR3 hU3 (by decide)), hgV⟩, h.wl, fun i hi => ?_, fun i j hi hj => ?_, ⟨h.rown.1, fun i hi => ?_⟩, hT3.but b4 (by simpa using hTU), hU4, h.town⟩
  · by_cases e : i = n
    · subst e; rw [upd_same, upd_same]
      exact ⟨_, _, hG3.but b4 (by simpa using type_ne hG3.head hU3 (by decide)) hNU⟩
    · rw [upd_ne _ _ e, upd_ne _ _ e]
      obtain ⟨a2, cap2, hr⟩ := hr3 i (by omega)
      exact ⟨a2, cap2, hr.but b4 (by simpa using type_ne hr.head hU3 (by decide)) hNU⟩
  · have hlt : ∀ i, i < n → rs i < W1.heap.size := fun i hi => by obtain ⟨_, _, hr⟩ := hD1.rg i hi; exact hr.lt
    by_cases e : i = n
    · by_cases e' : j = n
      · intro _; omega
      · subst e; rw [upd_same, upd_ne _ _ e']; have := hlt j (by omega); omega
    · by_cases e' : j = n
      · subst e'; rw [upd_same, upd_ne _ _ e]; have := hlt i (by omega); omega
      · rw [upd_ne _ _ e, upd_ne _ _ e']; exact h.rinj i j (by omega) (by omega)
  · by_cases e : i = n
    · subst e; rw [upd_same]; have := h.ks.but.size; have := hb.size; omega
    · rw [upd_ne _ _ e]; exact h.rown.2 i (by omega)
end Go.Proofs.Ytbjfongjdlankaa
