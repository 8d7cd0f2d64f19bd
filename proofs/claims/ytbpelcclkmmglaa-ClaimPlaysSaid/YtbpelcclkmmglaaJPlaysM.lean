/-
  What the law ClaimPlays holds in memory: claims on cells, the reference's on its own; each call's contract in these words.
-/
import Derived.Test.YtbpelcclkmmglaaJApartM
import Derived.Test.YtbpelcclkmmglaaJRef
namespace Go.Proofs.Ytbpelcclkmmglaa
open Go.RowKit

/-- Claims on cells (vs, c accesses), and the reference's (us, d accesses). -/
structure Duo (w0 W : World) (L P Q B V base n R C len : Nat) (vs : List Nat) (c : Nat) (us : List Nat) (d : Nat) : Prop where
  clm : Clm W L P Q B base n
  cels : Cels W B V vs c
  refk : RefK W R C base n
  refc : ∃ g, RefC W C g us d ∧ g ≠ V
  but : But [] w0 W
  own : w0.heap.size ≤ B ∧ w0.heap.size ≤ V ∧ w0.heap.size ≤ C
  lenV : vs.length = len
  lenU : us.length = len
  room : base + n ≤ len

theorem RefK.cels {W W' : World} {R C base n B V : Nat} {vs : List Nat} {c : Nat} (h : RefK W R C base n) (hC : Cels W B V vs c) (hb : But [B, V] W W') : RefK W' R C base n :=
  h.but hb (by simpa using ⟨type_ne h.head hC.head (by decide), type_ne h.head hC.row (by decide)⟩)
theorem RefC.cels {W W' : World} {C g n B V : Nat} {us vs : List Nat} {c : Nat} (h : RefC W C g us n) (hC : Cels W B V vs c) (hg : g ≠ V) (hb : But [B, V] W W') : RefC W' C g us n := by
  obtain ⟨_, h1, _⟩ := h.head
  obtain ⟨_, _, h2⟩ := h.row
  exact h.but hb (by simpa using ⟨type_ne h1 hC.head (by decide), type_ne h1 hC.row (by decide)⟩) (by simpa using ⟨type_ne h2 hC.head (by decide), hg⟩)

theorem Duo.prog {w0 W W' : World} {L P Q B V base n R C len : Nat} {vs vs' us : List Nat} {c c' d : Nat} (h : Duo w0 W L P Q B V base n R C len vs c us d) (hC : Cels W' B V vs' c') (hg : But [B, V] W W') (hl : vs'.length = vs.length) : Duo w0 W' L P Q B V base n R C len vs' c' us d := by
  obtain ⟨g, h1, h2⟩ := h.refc
  exact ⟨h.clm.cels h.cels hg, hC, h.refk.cels h.cels hg, ⟨g, h1.cels h.cels h2 hg, h2⟩, h.but.own hg h.own.1 h.own.2.1, h.own, hl.trans h.lenV, h.lenU, h.room⟩
theorem Duo.refd {w0 W W' : World} {L P Q B V base n R C len g : Nat} {vs us us' : List Nat} {c d d' : Nat} (h : Duo w0 W L P Q B V base n R C len vs c us d) (h1 : RefC W C g us d) (h2 : g ≠ V) (hR : RefNow W C g us' d' W') (hl : us'.length = us.length) : Duo w0 W' L P Q B V base n R C len vs c us' d' := by
  obtain ⟨g', r1, r2, r3⟩ := hR
  obtain ⟨_, q1, _⟩ := h1.head
  refine ⟨h.clm.but r3 ?_ ?_ ?_, h.cels.but r3 ?_ ?_, h.refk.but r3 ?_, ⟨g', r1, ?_⟩, h.but.trans r3 (by have := h.own; simp; omega), h.own, h.lenV, hl.trans h.lenU, h.room⟩
  · simpa using type_ne h.clm.head q1 (by decide)
  · simpa using type_ne h.clm.boxN q1 (by decide)
  · simpa using type_ne h.clm.boxB q1 (by decide)
  · simpa using type_ne h.cels.head q1 (by decide)
  · simpa using type_ne h.cels.row q1 (by decide)
  · simpa using type_ne h.refk.head q1 (by decide)
  · rcases r2 with rfl | r2
    · exact h2
    · have := h.cels.ltV; omega
theorem Duo.drewN {w0 W : World} {L P Q B V base n R C len : Nat} {vs us : List Nat} {c d : Nat} (h : Duo w0 W L P Q B V base n R C len vs c us d) (k : Nat) : Duo w0 (W.drewN k) L P Q B V base n R C len vs c us d := by
  obtain ⟨g, h1, h2⟩ := h.refc
  exact ⟨h.clm.drewN k, h.cels.drewN k, h.refk.drewN k, ⟨g, h1.drewN k, h2⟩, h.but.drewN k, h.own, h.lenV, h.lenU, h.room⟩
theorem Duo.fresh {w0 W W' : World} {L P Q B V base n R C len : Nat} {vs us : List Nat} {c d : Nat} (h : Duo w0 W L P Q B V base n R C len vs c us d) (hb : But [] W W') : Duo w0 W' L P Q B V base n R C len vs c us d := by
  obtain ⟨g, h1, h2⟩ := h.refc
  exact ⟨h.clm.but hb (by simp) (by simp) (by simp), h.cels.but hb (by simp) (by simp), h.refk.but hb (by simp), ⟨g, h1.but hb (by simp) (by simp), h2⟩, h.but.next hb, h.own, h.lenV, h.lenU, h.room⟩

/-- The same, beside a step that lies in block D. -/
structure DuoS (w0 W : World) (L P Q B V base n R C len : Nat) (vs : List Nat) (c : Nat) (us : List Nat) (d D : Nat) (kk : Int) (t : Nat) : Prop where
  duo : Duo w0 W L P Q B V base n R C len vs c us d
  s1 : W.cell? ⟨D, 1, none⟩ = some (.int .i64 kk)
  s2 : W.cell? ⟨D, 2, none⟩ = some (.int .u64 (t : Int))
  ne : D ≠ B ∧ D ≠ V ∧ D ≠ C
theorem DuoS.drewN {w0 W : World} {L P Q B V base n R C len D t : Nat} {kk : Int} {vs us : List Nat} {c d : Nat} (h : DuoS w0 W L P Q B V base n R C len vs c us d D kk t) (k : Nat) : DuoS w0 (W.drewN k) L P Q B V base n R C len vs c us d D kk t := ⟨h.duo.drewN k, h.s1, h.s2, h.ne⟩
theorem DuoS.drew {w0 W : World} {L P Q B V base n R C len D t : Nat} {kk : Int} {vs us : List Nat} {c d : Nat} (h : DuoS w0 W L P Q B V base n R C len vs c us d D kk t) : DuoS w0 W.drew L P Q B V base n R C len vs c us d D kk t := h.drewN 1
theorem DuoS.prog {w0 W W' : World} {L P Q B V base n R C len D t : Nat} {kk : Int} {vs vs' us : List Nat} {c c' d : Nat} (h : DuoS w0 W L P Q B V base n R C len vs c us d D kk t) (hC : Cels W' B V vs' c') (hg : But [B, V] W W') (hl : vs'.length = vs.length) : DuoS w0 W' L P Q B V base n R C len vs' c' us d D kk t :=
  ⟨h.duo.prog hC hg hl, hg.cell h.s1 (by have := h.ne; simp [this.1, this.2.1]), hg.cell h.s2 (by have := h.ne; simp [this.1, this.2.1]), h.ne⟩
theorem DuoS.refd {w0 W W' : World} {L P Q B V base n R C len g D t : Nat} {kk : Int} {vs us us' : List Nat} {c d d' : Nat} (h : DuoS w0 W L P Q B V base n R C len vs c us d D kk t) (h1 : RefC W C g us d) (h2 : g ≠ V) (hR : RefNow W C g us' d' W') (hl : us'.length = us.length) : DuoS w0 W' L P Q B V base n R C len vs c us' d' D kk t := by
  have hg : But [C] W W' := by obtain ⟨_, _, _, h⟩ := hR; exact h
  exact ⟨h.duo.refd h1 h2 hR hl, hg.cell h.s1 (by simp [h.ne.2.2]), hg.cell h.s2 (by simp [h.ne.2.2]), h.ne⟩

theorem duo_open {w0 W : World} {L P Q B V base n R C len D t : Nat} {kk : Int} {vs us : List Nat} {c d : Nat} (k : Int) (h : DuoS w0 W L P Q B V base n R C len vs c us d D kk t) :
    Calls Try.prog 10 #[.pointer (some ⟨L, 0, none⟩), .int .i64 k] W fun e w' => e = .returned (.int .u64 (openE base n vs k : Int)) ∧ DuoS w0 w' L P Q B V base n R C len (openV base n vs k) (openC base n vs k c) us d D kk t := by
  refine (open_any k W h.duo.clm h.duo.cels (by have := h.duo.lenV; have := h.duo.room; omega)).mono ?_
  rintro e w' ⟨rfl, hC, hg⟩
  exact ⟨rfl, h.prog hC hg (openV_len _ _ _ _)⟩
theorem duo_kopen {w0 W : World} {L P Q B V base n R C len D t : Nat} {kk : Int} {vs us : List Nat} {c d : Nat} (k : Int) (h : DuoS w0 W L P Q B V base n R C len vs c us d D kk t) :
    Calls Try.prog 11 #[.pointer (some ⟨R, 0, none⟩), .int .i64 k] W fun e w' => e = .returned (.int .u64 (openE base n us k : Int)) ∧ DuoS w0 w' L P Q B V base n R C len vs c (openV base n us k) (openC base n us k d) D kk t := by
  obtain ⟨g, h1, h2⟩ := h.duo.refc
  refine (kopen_any k W h.duo.refk h1 (by have := h.duo.lenU; have := h.duo.room; omega)).mono ?_
  rintro e w' ⟨rfl, hR⟩
  exact ⟨rfl, h.refd h1 h2 hR (openV_len _ _ _ _)⟩
theorem duo_claim {w0 W : World} {L P Q B V base n R C len D t : Nat} {kk : Int} {vs us : List Nat} {c d : Nat} (k : Int) (u : Nat) (h : DuoS w0 W L P Q B V base n R C len vs c us d D kk t) :
    Calls Try.prog 12 #[.pointer (some ⟨L, 0, none⟩), .int .i64 k, .int .u64 (u : Int)] W fun e w' => e = .returned (.bool (claimE base n vs k u)) ∧ DuoS w0 w' L P Q B V base n R C len (claimV base n vs k u) (claimC n k u c) us d D kk t := by
  refine (claim_any k u W h.duo.clm h.duo.cels (by have := h.duo.lenV; have := h.duo.room; omega)).mono ?_
  rintro e w' ⟨rfl, hC, hg⟩
  exact ⟨rfl, h.prog hC hg (claimV_len _ _ _ _ _)⟩
theorem duo_kclaim {w0 W : World} {L P Q B V base n R C len D t : Nat} {kk : Int} {vs us : List Nat} {c d : Nat} (k : Int) (u : Nat) (h : DuoS w0 W L P Q B V base n R C len vs c us d D kk t) :
    Calls Try.prog 13 #[.pointer (some ⟨R, 0, none⟩), .int .i64 k, .int .u64 (u : Int)] W fun e w' => e = .returned (.bool (claimE base n us k u)) ∧ DuoS w0 w' L P Q B V base n R C len vs c (claimV base n us k u) (claimC n k u d) D kk t := by
  obtain ⟨g, h1, h2⟩ := h.duo.refc
  refine (kclaim_any k u W h.duo.refk h1 (by have := h.duo.lenU; have := h.duo.room; omega)).mono ?_
  rintro e w' ⟨rfl, hR⟩
  exact ⟨rfl, h.refd h1 h2 hR (claimV_len _ _ _ _ _)⟩
theorem duo_turn {w0 W : World} {L P Q B V base n R C len D t : Nat} {kk : Int} {vs us : List Nat} {c d : Nat} (k : Int) (h : DuoS w0 W L P Q B V base n R C len vs c us d D kk t) :
    Calls Try.prog 14 #[.pointer (some ⟨L, 0, none⟩), .int .i64 k] W fun e w' => e = .returned (.int .u64 (turnE base n vs k : Int)) ∧ DuoS w0 w' L P Q B V base n R C len vs c us d D kk t := by
  refine (turn_any k W h.duo.clm h.duo.cels (by have := h.duo.lenV; have := h.duo.room; omega)).mono ?_
  rintro e w' ⟨rfl, rfl⟩
  exact ⟨rfl, h⟩
theorem duo_kturn {w0 W : World} {L P Q B V base n R C len D t : Nat} {kk : Int} {vs us : List Nat} {c d : Nat} (k : Int) (h : DuoS w0 W L P Q B V base n R C len vs c us d D kk t) :
    Calls Try.prog 15 #[.pointer (some ⟨R, 0, none⟩), .int .i64 k] W fun e w' => e = .returned (.int .u64 (turnE base n us k : Int)) ∧ DuoS w0 w' L P Q B V base n R C len vs c us d D kk t := by
  obtain ⟨g, h1, h2⟩ := h.duo.refc
  refine (kturn_any k W h.duo.refk h1 (by have := h.duo.lenU; have := h.duo.room; omega)).mono ?_
  rintro e w' ⟨rfl, m, rfl⟩
  exact ⟨rfl, h.drewN m⟩
theorem duo_write {w0 W : World} {L P Q B V base n R C len D t : Nat} {kk : Int} {vs us : List Nat} {c d : Nat} (i : Int) (y : Nat) (h : DuoS w0 W L P Q B V base n R C len vs c us d D kk t) (h1 : -9223372036854775808 ≤ i) (h2 : i ≤ 9223372036854775807) (hy : y < 18446744073709551616) :
    Calls Try.prog 17 #[.pointer (some ⟨B, 0, none⟩), .int .i64 i, .int .u64 (y : Int)] W fun e w' => e = .returned (.tuple #[]) ∧ DuoS w0 w' L P Q B V base n R C len (putAt vs i y) (countUp len c i) us d D kk t := by
  refine (cell_write i y W h.duo.cels h1 h2 hy).mono ?_
  rintro e w' ⟨rfl, hC, hg⟩
  rw [h.duo.lenV] at hC
  exact ⟨rfl, h.prog hC hg (putAt_len _ _ _)⟩
theorem duo_kwrite {w0 W : World} {L P Q B V base n R C len D t : Nat} {kk : Int} {vs us : List Nat} {c d : Nat} (i : Int) (y : Nat) (h : DuoS w0 W L P Q B V base n R C len vs c us d D kk t) (h1 : -9223372036854775808 ≤ i) (h2 : i ≤ 9223372036854775807) (hy : y < 18446744073709551616) :
    Calls Try.prog 18 #[.pointer (some ⟨C, 0, none⟩), .int .i64 i, .int .u64 (y : Int)] W fun e w' => e = .returned (.tuple #[]) ∧ DuoS w0 w' L P Q B V base n R C len vs c (putAt us i y) (countUp len d i) D kk t := by
  obtain ⟨g, r1, r2⟩ := h.duo.refc
  refine (rwrite_any i y W r1 h1 h2 hy).mono ?_
  rintro e w' ⟨rfl, hR⟩
  rw [h.duo.lenU] at hR
  exact ⟨rfl, h.refd r1 r2 hR (putAt_len _ _ _)⟩

/-- The beginning. -/
theorem Duo.first {w0 W W1 : World} {L P Q B V base n len : Nat} (hL : Clm W L P Q B base n) (hC : Cels W B V (List.replicate len 0) 0) (hz : But [] w0 W) (hB : w0.heap.size ≤ B) (hV : w0.heap.size ≤ V) (hl : len ≤ 4096) (hr : base + n ≤ len) (hg : W.grownBy W1 none)
    (ho : W1.ownsRow W.heap.size 33 1 (.slice (some ⟨W.heap.size, 0, none⟩) len len) len (madeCells (Value.int .u64 0).cells (len * 1)).toList) :
    Duo w0 ((W1.alloc (.cells #[.slice (some ⟨W.heap.size, 0, none⟩) len len, .int .u64 0] 35)).alloc (.cells #[.pointer (some ⟨W1.heap.size, 0, none⟩), .int .i64 (base : Int), .int .i64 (n : Int)] 38)) L P Q B V base n (W1.heap.size + 1) W1.heap.size len (List.replicate len 0) 0 (List.replicate len 0) 0 := by
  rw [madeU64] at ho
  have hg1 := But.of_none hg []
  have hg2 := hg1.alloc (.cells #[.slice (some ⟨W.heap.size, 0, none⟩) len len, .int .u64 0] 35)
  have hg3 := hg2.alloc (.cells #[.pointer (some ⟨W1.heap.size, 0, none⟩), .int .i64 (base : Int), .int .i64 (n : Int)] 38)
  have x1 := World.alloc_heap_new W1 (.cells #[.slice (some ⟨W.heap.size, 0, none⟩) len len, .int .u64 0] 35)
  have x2 := World.alloc_heap_new (W1.alloc (.cells #[.slice (some ⟨W.heap.size, 0, none⟩) len len, .int .u64 0] 35)) (.cells #[.pointer (some ⟨W1.heap.size, 0, none⟩), .int .i64 (base : Int), .int .i64 (n : Int)] 38)
  rw [World.size_alloc] at x2
  have hs := hz.size
  have hs1 := hg1.size
  refine ⟨hL.but hg3 (by simp) (by simp) (by simp), hC.but hg3 (by simp) (by simp), ⟨x2, hL.room⟩, ⟨W.heap.size, ⟨⟨len, ?_, ?_⟩, hC.all, by omega, by simpa using hl⟩, by have := hC.ltV; omega⟩, hz.next hg3, ⟨hB, hV, by omega⟩, by simp, by simp, hr⟩
  · rw [List.length_replicate]
    exact (Below.heap_alloc _ _ _ (by simp)).trans x1
  · rw [List.length_replicate]
    have r1 := (ho.alloc (.cells #[.slice (some ⟨W.heap.size, 0, none⟩) len len, .int .u64 0] 35)).alloc (.cells #[.pointer (some ⟨W1.heap.size, 0, none⟩), .int .i64 (base : Int), .int .i64 (n : Int)] 38)
    exact ⟨r1.1, r1.2.imp id fun ⟨a, b, d, e1, _, r⟩ => ⟨a, b, d, e1, Nat.zero_le _, r⟩⟩
theorem cell3 {W : World} {D : Nat} {a b c : Value} {t : TypeId} (h : W.heap[D]? = some (.cells #[a, b, c] t (0, 0))) : W.cell? ⟨D, 1, none⟩ = some b ∧ W.cell? ⟨D, 2, none⟩ = some c := by
  simp [World.cell?, h]
/-- A step that is copied into a block of its own. -/
theorem Duo.beside {w0 W : World} {L P Q B V base n R C len t : Nat} {dd kk : Int} {vs us : List Nat} {c d : Nat} {ty : TypeId} (h : Duo w0 W L P Q B V base n R C len vs c us d) :
    DuoS w0 (W.alloc (.cells #[.int .i64 dd, .int .i64 kk, .int .u64 (t : Int)] ty)) L P Q B V base n R C len vs c us d W.heap.size kk t := by
  obtain ⟨x1, x2⟩ := cell3 (World.alloc_heap_new W (.cells #[.int .i64 dd, .int .i64 kk, .int .u64 (t : Int)] ty))
  refine ⟨h.fresh ((But.refl [] W).alloc _), x1, x2, ?_, ?_, ?_⟩
  · have := h.cels.ltB; omega
  · have := h.cels.ltV; omega
  · obtain ⟨g, h1, _⟩ := h.refc; have := h1.ltC; omega
/-- What is asked at the end of a round: nothing of it turns anything. -/
theorem duo_q {w0 W : World} {L P Q B V base n R C len D t : Nat} {kk : Int} {vs us : List Nat} {c d : Nat} (h : DuoS w0 W L P Q B V base n R C len vs c us d D kk t) :
    (∀ (k : Int) m, Calls Try.prog 14 #[.pointer (some ⟨L, 0, none⟩), .int .i64 k] (W.drewN m) fun e w' => e = .returned (.int .u64 (turnE base n vs k : Int)) ∧ w' = W.drewN m)
    ∧ (∀ (k : Int) m, Calls Try.prog 15 #[.pointer (some ⟨R, 0, none⟩), .int .i64 k] (W.drewN m) fun e w' => e = .returned (.int .u64 (turnE base n us k : Int)) ∧ ∃ q, w' = (W.drewN m).drewN q)
    ∧ (∀ (k : Int) m, Calls Try.prog 19 #[.pointer (some ⟨L, 0, none⟩), .int .i64 k] (W.drewN m) fun e w' => e = .returned (.bool (isOdd (turnE base n vs k))) ∧ w' = W.drewN m)
    ∧ (∀ m, Calls Try.prog 20 #[.pointer (some ⟨B, 0, none⟩)] (W.drewN m) fun e w' => e = .returned (.int .u64 (c : Int)) ∧ w' = W.drewN m)
    ∧ (∀ m, Calls Try.prog 21 #[.pointer (some ⟨L, 0, none⟩)] (W.drewN m) fun e w' => e = .returned (.int .i64 (n : Int)) ∧ w' = W.drewN m)
    ∧ W.cell? ⟨C, 1, none⟩ = some (.int .u64 (d : Int)) := by
  have hv : base + n ≤ vs.length := by have := h.duo.lenV; have := h.duo.room; omega
  have hu : base + n ≤ us.length := by have := h.duo.lenU; have := h.duo.room; omega
  obtain ⟨g, h1, h2⟩ := h.duo.refc
  exact ⟨fun k m => turn_any k _ (h.duo.clm.drewN m) (h.duo.cels.drewN m) hv, fun k m => kturn_any k _ (h.duo.refk.drewN m) (h1.drewN m) hu, fun k m => isopen_any k _ (h.duo.clm.drewN m) (h.duo.cels.drewN m) hv, fun m => count_any _ (h.duo.cels.drewN m), fun m => klen_any _ (h.duo.clm.drewN m), h1.cellN⟩

theorem cnew_bad {k : Int} (w : World) (h : k < 1) : Calls Try.prog 8 #[.int .i64 k] w fun e w' => e = .returned (.tuple #[.pointer none, .int .i64 2]) ∧ w' = w := by
  have t1 : decide (k < 1) = true := decide_eq_true h
  go_enter Try.func8, Try.ntmps8
  go_wp2_with fail
  go_ret2
  exact ⟨rfl, rfl⟩
end Go.Proofs.Ytbpelcclkmmglaa
