/-
  What the law TicketPlays holds in memory at the head of a round.
-/
import Derived.Test.YtednclgfgekgbaaTRef
namespace Go.Proofs.Ytednclgfgekgbaa
open Go.RowKit

/-- Cells and locks, and the reference's, all with the same numbers. -/
structure Duel (w0 W : World) (L P Q B V base n R C g : Nat) (vs : List Nat) (c : Nat) : Prop where
  lks : Lks W L P Q B base n
  cels : Cels W B V vs c
  refl : RefL W R C base n
  refc : RefC W C g vs c
  apart : g ≠ V
  but : But [] w0 W
  own : w0.heap.size ≤ B ∧ w0.heap.size ≤ V ∧ w0.heap.size ≤ C
  len : vs.length = 20

theorem RefL.cels {W W' : World} {R C base n B V : Nat} {vs : List Nat} {c : Nat} (h : RefL W R C base n) (hC : Cels W B V vs c) (hb : But [B, V] W W') : RefL W' R C base n :=
  h.but hb (by simpa using ⟨type_ne h.head hC.head (by decide), type_ne h.head hC.row (by decide)⟩)
theorem RefC.cels {W W' : World} {C g n B V : Nat} {us vs : List Nat} {c : Nat} (h : RefC W C g us n) (hC : Cels W B V vs c) (hg : g ≠ V) (hb : But [B, V] W W') : RefC W' C g us n := by
  obtain ⟨_, h1, _⟩ := h.head
  obtain ⟨_, _, h2⟩ := h.row
  exact h.but hb (by simpa using ⟨type_ne h1 hC.head (by decide), type_ne h1 hC.row (by decide)⟩) (by simpa using ⟨type_ne h2 hC.head (by decide), hg⟩)

theorem Duel.step {w0 W W1 W2 : World} {L P Q B V base n R C g : Nat} {vs vs' : List Nat} {c c' : Nat} (h : Duel w0 W L P Q B V base n R C g vs c) (hC1 : Cels W1 B V vs' c') (hg1 : But [B, V] W W1) (hR : RefNow W1 C g vs' c' W2) (hlen : vs'.length = 20) : ∃ g', Duel w0 W2 L P Q B V base n R C g' vs' c' := by
  obtain ⟨g', r1, r2, r3⟩ := hR
  obtain ⟨_, k1, _⟩ := r1.head
  have hL1 := h.lks.cels h.cels hg1
  have hl1 := h.refl.cels h.cels hg1
  have hr1 := h.refc.cels h.cels h.apart hg1
  obtain ⟨_, q1, _⟩ := hr1.head
  refine ⟨g', hL1.but r3 ?_ ?_ ?_, hC1.but r3 ?_ ?_, hl1.but r3 ?_, r1, ?_, (h.but.own hg1 h.own.1 h.own.2.1).trans r3 ?_, h.own, hlen⟩
  · simpa using type_ne hL1.head q1 (by decide)
  · simpa using type_ne hL1.boxN q1 (by decide)
  · simpa using type_ne hL1.boxB q1 (by decide)
  · simpa using type_ne hC1.head q1 (by decide)
  · simpa using type_ne hC1.row q1 (by decide)
  · simpa using type_ne hl1.head q1 (by decide)
  · rcases r2 with rfl | r2
    · exact h.apart
    · have := hC1.ltV; omega
  · have := h.own.2.2; simp; omega
theorem Duel.drewN {w0 W : World} {L P Q B V base n R C g : Nat} {vs : List Nat} {c : Nat} (h : Duel w0 W L P Q B V base n R C g vs c) (k : Nat) : Duel w0 (W.drewN k) L P Q B V base n R C g vs c :=
  ⟨h.lks.drewN k, h.cels.drewN k, h.refl.drewN k, h.refc.drewN k, h.apart, h.but.drewN k, h.own, h.len⟩
theorem Duel.drew {w0 W : World} {L P Q B V base n R C g : Nat} {vs : List Nat} {c : Nat} (h : Duel w0 W L P Q B V base n R C g vs c) : Duel w0 W.drew L P Q B V base n R C g vs c := h.drewN 1
theorem Duel.fresh {w0 W W' : World} {L P Q B V base n R C g : Nat} {vs : List Nat} {c : Nat} (h : Duel w0 W L P Q B V base n R C g vs c) (hb : But [] W W') : Duel w0 W' L P Q B V base n R C g vs c :=
  ⟨h.lks.but hb (by simp) (by simp) (by simp), h.cels.but hb (by simp) (by simp), h.refl.but hb (by simp), h.refc.but hb (by simp) (by simp), h.apart, h.but.next hb, h.own, h.len⟩

theorem Duel.first {w0 W W1 : World} {L P Q B V base n : Nat} {vs : List Nat} (hL : Lks W L P Q B base n) (hC : Cels W B V vs 0) (hz : But [] w0 W) (hB : w0.heap.size ≤ B) (hV : w0.heap.size ≤ V) (hvs : vs = List.replicate 20 0) (hg : W.grownBy W1 none)
    (ho : W1.ownsRow W.heap.size 41 1 (.slice (some ⟨W.heap.size, 0, none⟩) 20 20) 20 (madeCells (Value.int .u64 0).cells (20 * 1)).toList) :
    Duel w0 ((W1.alloc (.cells #[.slice (some ⟨W.heap.size, 0, none⟩) 20 20, .int .u64 0] 43)).alloc (.cells #[.pointer (some ⟨W1.heap.size, 0, none⟩), .int .i64 (base : Int), .int .i64 (n : Int)] 45)) L P Q B V base n (W1.heap.size + 1) W1.heap.size W.heap.size vs 0 := by
  have hlen : vs.length = 20 := by rw [hvs]; simp
  rw [madeU64, ← hvs] at ho
  have hg1 := But.of_none hg []
  have hg2 := hg1.alloc (.cells #[.slice (some ⟨W.heap.size, 0, none⟩) 20 20, .int .u64 0] 43)
  have hg3 := hg2.alloc (.cells #[.pointer (some ⟨W1.heap.size, 0, none⟩), .int .i64 (base : Int), .int .i64 (n : Int)] 45)
  have x1 := World.alloc_heap_new W1 (.cells #[.slice (some ⟨W.heap.size, 0, none⟩) 20 20, .int .u64 0] 43)
  have x2 := World.alloc_heap_new (W1.alloc (.cells #[.slice (some ⟨W.heap.size, 0, none⟩) 20 20, .int .u64 0] 43)) (.cells #[.pointer (some ⟨W1.heap.size, 0, none⟩), .int .i64 (base : Int), .int .i64 (n : Int)] 45)
  rw [World.size_alloc] at x2
  have hs := hz.size
  have hs1 := hg1.size
  refine ⟨hL.but hg3 (by simp) (by simp) (by simp), hC.but hg3 (by simp) (by simp), ⟨x2, hL.most, hL.room⟩, ⟨⟨20, ?_, ?_⟩, hC.all, by omega, by omega⟩, by have := hC.ltV; omega, hz.next hg3, ⟨hB, hV, by omega⟩, hlen⟩
  · rw [hlen]
    exact (Below.heap_alloc _ _ _ (by simp)).trans x1
  · rw [hlen]
    have r1 := (ho.alloc (.cells #[.slice (some ⟨W.heap.size, 0, none⟩) 20 20, .int .u64 0] 43)).alloc (.cells #[.pointer (some ⟨W1.heap.size, 0, none⟩), .int .i64 (base : Int), .int .i64 (n : Int)] 45)
    exact ⟨r1.1, r1.2.imp id fun ⟨a, b, d, e1, _, r⟩ => ⟨a, b, d, e1, Nat.zero_le _, r⟩⟩

theorem RefNow.but {w w' : World} {C g n : Nat} {vs : List Nat} (h : RefNow w C g vs n w') : But [C] w w' := by obtain ⟨_, _, _, h⟩ := h; exact h
/-- A cell of a block of its own outlasts what turns cells, and the reference's. -/
theorem But.keeps {w w' : World} {S : List Nat} (h : But S w w') {D o : Nat} {v : Value} (hv : w.cell? ⟨D, o, none⟩ = some v) (hD : ∀ x ∈ S, x ≠ D) : w'.cell? ⟨D, o, none⟩ = some v := h.cell hv (fun e => hD _ e rfl)
theorem cell4 {W : World} {D : Nat} {a b c d : Value} {t : TypeId} (h : W.heap[D]? = some (.cells #[a, b, c, d] t (0, 0))) : W.cell? ⟨D, 0, none⟩ = some a ∧ W.cell? ⟨D, 1, none⟩ = some b ∧ W.cell? ⟨D, 2, none⟩ = some c ∧ W.cell? ⟨D, 3, none⟩ = some d := by
  simp [World.cell?, h]

/-- One step in memory. -/
structure StepAt (w : World) (b o : Nat) (s : Int × Int × Nat × Nat) : Prop where
  d : w.cell? ⟨b, o, none⟩ = some (.int .i64 s.1)
  k : w.cell? ⟨b, o + 1, none⟩ = some (.int .i64 s.2.1)
  t : w.cell? ⟨b, o + 2, none⟩ = some (.int .u16 (s.2.2.1 : Int))
  v : w.cell? ⟨b, o + 3, none⟩ = some (.int .u64 (s.2.2.2 : Int))
  k1 : -9223372036854775808 ≤ s.2.1
  k2 : s.2.1 ≤ 9223372036854775807
  v2 : s.2.2.2 < 18446744073709551616

/-- The slice value v reads as these steps. -/
def Steps (w : World) (v : Value) (ss : List (Int × Int × Nat × Nat)) : Prop :=
  (ss = [] ∧ ∃ a cap, v = .slice a 0 cap) ∨
  (∃ b off cap, v = .slice (some ⟨b, off, none⟩) ss.length cap ∧ 0 < ss.length ∧ ∀ j, j < ss.length → StepAt w b (off + j * 4) (ss[j]?.getD (0, 0, 0, 0)))
end Go.Proofs.Ytednclgfgekgbaa
