/-
  Guards and the document's, side by side: what the law GuardPlays holds, and what each call does to it.
-/
import Derived.Test.YtbjfongjdlankaaUVSame
namespace Go.Proofs.Ytbjfongjdlankaa
open Go.RowKit

/-- A row of n pointers, with room for three. -/
def PtrN (n : Nat) (gs : Nat → Nat) : Nat → Value := fun k => if k < n then .pointer (some ⟨gs k, 0, none⟩) else .pointer none
theorem PtrN.at {n : Nat} {gs : Nat → Nat} {k : Nat} (h : k < n) : PtrN n gs k = .pointer (some ⟨gs k, 0, none⟩) := if_pos h
theorem PtrN.more (n : Nat) (gs : Nat → Nat) (G : Nat) : upd (PtrN n gs) n (.pointer (some ⟨G, 0, none⟩)) = PtrN (n + 1) (upd gs n G) := by
  funext k
  by_cases e : k = n
  · subst e; rw [upd_same, PtrN, if_pos (by omega), upd_same]
  · rw [upd_ne _ _ e, PtrN, PtrN, upd_ne _ _ e]
    by_cases h : k < n
    · rw [if_pos h, if_pos (by omega)]
    · rw [if_neg h, if_neg (by omega)]
theorem PtrN.turn {n : Nat} (gs : Nat → Nat) {i : Nat} (G : Nat) (hi : i < n) : upd (PtrN n gs) i (.pointer (some ⟨G, 0, none⟩)) = PtrN n (upd gs i G) := by
  funext k
  by_cases e : k = i
  · subst e; rw [upd_same, PtrN, if_pos hi, upd_same]
  · rw [upd_ne _ _ e, PtrN, PtrN, upd_ne _ _ e]

/-- n guards, and the document's n, each with its own cells. -/
structure Duel (w0 W : World) (L P Q B V Y M T U n : Nat) (gs rs : Nat → Nat) (ss us : Nat → Gs) (vs ws : List Nat) (c d : Nat) : Prop where
  ks : Gks w0 W L P Q B V n gs ss vs c
  rl : RefL W Y M 4 6
  rc : ∃ g, RefC W M g ws d ∧ g ≠ V
  wl : ws.length = 20
  rg : ∀ i, i < n → ∃ a cap, RefG W (rs i) Y a cap (us i)
  rinj : ∀ i j, i < n → j < n → rs i = rs j → i = j
  rown : w0.heap.size ≤ M ∧ ∀ i, i < n → w0.heap.size ≤ rs i
  gt : ArrF W T 41 3 (PtrN n gs)
  ut : ArrF W U 45 3 (PtrN n rs)
  town : w0.heap.size ≤ T ∧ w0.heap.size ≤ U
section
variable {w0 W W' : World} {L P Q B V Y M T U n : Nat} {gs rs : Nat → Nat} {ss us : Nat → Gs} {vs ws : List Nat} {c d : Nat}
theorem Duel.hl (h : Duel w0 W L P Q B V Y M T U n gs rs ss us vs ws c d) : 4 + 2 * 6 ≤ ws.length := by have := h.wl; omega
theorem Duel.cellG (h : Duel w0 W L P Q B V Y M T U n gs rs ss us vs ws c d) {k : Nat} (hk : k < n) (h3 : k < 3) : W.cell? ⟨T, k, none⟩ = some (.pointer (some ⟨gs k, 0, none⟩)) := by rw [h.gt.cell h3, PtrN.at hk]
theorem Duel.cellR (h : Duel w0 W L P Q B V Y M T U n gs rs ss us vs ws c d) {k : Nat} (hk : k < n) (h3 : k < 3) : W.cell? ⟨U, k, none⟩ = some (.pointer (some ⟨rs k, 0, none⟩)) := by rw [h.ut.cell h3, PtrN.at hk]
theorem Duel.cellN (h : Duel w0 W L P Q B V Y M T U n gs rs ss us vs ws c d) : W.cell? ⟨M, 1, none⟩ = some (.int .u64 (d : Int)) := by obtain ⟨g, hC, _⟩ := h.rc; exact hC.cellN

/-- What turns none of all this. -/
theorem Duel.fresh (h : Duel w0 W L P Q B V Y M T U n gs rs ss us vs ws c d) (hb : But [] W W') : Duel w0 W' L P Q B V Y M T U n gs rs ss us vs ws c d := by
  obtain ⟨g, hC, hg⟩ := h.rc
  refine ⟨h.ks.fresh hb, h.rl.but hb (by simp), ⟨g, hC.but hb (by simp) (by simp), hg⟩, h.wl, fun i hi => ?_, h.rinj, h.rown, h.gt.but hb (by simp), h.ut.but hb (by simp), h.town⟩
  obtain ⟨a, cap, hr⟩ := h.rg i hi
  exact ⟨a, cap, hr.next hb⟩
theorem Duel.drewN (h : Duel w0 W L P Q B V Y M T U n gs rs ss us vs ws c d) (k : Nat) : Duel w0 (W.drewN k) L P Q B V Y M T U n gs rs ss us vs ws c d := h.fresh ((But.refl [] W).drewN k)
theorem Duel.drew (h : Duel w0 W L P Q B V Y M T U n gs rs ss us vs ws c d) : Duel w0 W.drew L P Q B V Y M T U n gs rs ss us vs ws c d := h.drewN 1
/-- A guard of the program's was turned, and its cells. -/
theorem Duel.prog (h : Duel w0 W L P Q B V Y M T U n gs rs ss us vs ws c d) {i c' : Nat} {ss' : Nat → Gs} {vs' : List Nat} (hi : i < n) (hK : Gks w0 W' L P Q B V n gs ss' vs' c') (hb : But [B, V, gs i] W W') : Duel w0 W' L P Q B V Y M T U n gs rs ss' us vs' ws c' d := by
  obtain ⟨g, hC, hg⟩ := h.rc
  obtain ⟨a, cap, hgd⟩ := h.ks.gd i hi
  obtain ⟨k1, hM, -⟩ := hC.head
  obtain ⟨cs, z, hR⟩ := hC.row
  have hNI : NotInts W [B, V, gs i] := NotInts.cons h.ks.cels.head (by decide) (NotInts.cons h.ks.cels.row (by decide) hgd.own)
  refine ⟨hK, h.rl.but hb ?_, ⟨g, hC.but hb ?_ ?_, hg⟩, h.wl, fun j hj => ?_, h.rinj, h.rown, h.gt.but hb ?_, h.ut.but hb ?_, h.town⟩
  · simpa using ⟨type_ne h.rl.head h.ks.cels.head (by decide), type_ne h.rl.head h.ks.cels.row (by decide), type_ne h.rl.head hgd.head (by decide)⟩
  · simpa using ⟨type_ne hM h.ks.cels.head (by decide), type_ne hM h.ks.cels.row (by decide), type_ne hM hgd.head (by decide)⟩
  · simpa using ⟨type_ne hR h.ks.cels.head (by decide), hg, type_ne hR hgd.head (by decide)⟩
  · obtain ⟨a2, cap2, hr⟩ := h.rg j hj
    exact ⟨a2, cap2, hr.but hb (by simpa using ⟨type_ne hr.head h.ks.cels.head (by decide), type_ne hr.head h.ks.cels.row (by decide), type_ne hr.head hgd.head (by decide)⟩) hNI⟩
  · simpa using ⟨type_ne h.gt h.ks.cels.head (by decide), type_ne h.gt h.ks.cels.row (by decide), type_ne h.gt hgd.head (by decide)⟩
  · simpa using ⟨type_ne h.ut h.ks.cels.head (by decide), type_ne h.ut h.ks.cels.row (by decide), type_ne h.ut hgd.head (by decide)⟩
/-- A guard of the document's was turned, and its cells. -/
theorem Duel.refd (h : Duel w0 W L P Q B V Y M T U n gs rs ss us vs ws c d) {i d' g g' : Nat} {a' : Option Addr} {cap' : Nat} {s' : Gs} {ws' : List Nat} (hi : i < n) (hC : RefC W M g ws d) (hg : g ≠ V)
    (h1 : RefG W' (rs i) Y a' cap' s') (h2 : RefL W' Y M 4 6) (h3 : RefC W' M g' ws' d') (h4 : g' = g ∨ W.heap.size ≤ g') (hb : But [M, rs i] W W') (hl : ws'.length = ws.length) : Duel w0 W' L P Q B V Y M T U n gs rs ss (upd us i s') vs ws' c d' := by
  obtain ⟨a, cap, hr⟩ := h.rg i hi
  obtain ⟨k1, hM, -⟩ := hC.head
  refine ⟨h.ks.but' hb ?_ (Alien.cons hM (by decide) (Alien.cons hr.head (by decide) (Alien.nil _))), h2, ⟨g', h3, ?_⟩, hl.trans h.wl, fun j hj => ?_, h.rinj, h.rown, h.gt.but hb ?_, h.ut.but hb ?_, h.town⟩
  · have := h.rown.1; have := h.rown.2 i hi
    simp; omega
  · rcases h4 with rfl | h4
    · exact hg
    · have := h.ks.cels.ltV; omega
  · by_cases e : j = i
    · subst e; rw [upd_same]; exact ⟨_, _, h1⟩
    · rw [upd_ne _ _ e]
      obtain ⟨a2, cap2, hj2⟩ := h.rg j hj
      exact ⟨a2, cap2, hj2.but hb (by simpa using ⟨type_ne hj2.head hM (by decide), fun he => e (h.rinj j i hj hi he)⟩) (NotInts.cons hM (by decide) (NotInts.cons hr.head (by decide) (NotInts.nil _)))⟩
  · simpa using ⟨type_ne h.gt hM (by decide), type_ne h.gt hr.head (by decide)⟩
  · simpa using ⟨type_ne h.ut hM (by decide), type_ne h.ut hr.head (by decide)⟩

/-! ### The calls -/
theorem d_step (h : Duel w0 W L P Q B V Y M T U n gs rs ss us vs ws c d) {i : Nat} (hi : i < n) :
    Calls Try.prog 10 #[.pointer (some ⟨gs i, 0, none⟩)] W fun e w' => e = .returned (.tuple #[.bool (stepA 4 6 vs (ss i)), .int .i64 (stepE (ss i))]) ∧ Duel w0 w' L P Q B V Y M T U n gs rs (upd ss i (stepS 4 6 vs (ss i))) us (stepV 4 6 vs (ss i)) ws (stepC 6 c (ss i)) d := by
  refine (ks_step h.ks hi).mono ?_
  rintro e w' ⟨rfl, h1, hb⟩
  exact ⟨rfl, h.prog hi h1 hb⟩
theorem d_rstep (h : Duel w0 W L P Q B V Y M T U n gs rs ss us vs ws c d) {i : Nat} (hi : i < n) :
    Calls Try.prog 11 #[.pointer (some ⟨rs i, 0, none⟩)] W fun e w' => e = .returned (.tuple #[.bool (stepA 4 6 ws (us i)), .int .i64 (stepE (us i))]) ∧ Duel w0 w' L P Q B V Y M T U n gs rs ss (upd us i (stepS 4 6 ws (us i))) vs (stepV 4 6 ws (us i)) c (stepC 6 d (us i)) := by
  obtain ⟨a, cap, hr⟩ := h.rg i hi
  obtain ⟨g, hC, hg⟩ := h.rc
  refine (rstep_any W hr h.rl hC h.hl).mono ?_
  rintro e w' ⟨rfl, h1, h2, g', h3, h4, h5⟩
  exact ⟨rfl, h.refd hi hC hg h1 h2 h3 h4 h5 (stepV_len _ _ _ _)⟩
theorem d_give (h : Duel w0 W L P Q B V Y M T U n gs rs ss us vs ws c d) {i : Nat} (hi : i < n) :
    Calls Try.prog 14 #[.pointer (some ⟨gs i, 0, none⟩)] W fun e w' => e = .returned (.tuple #[.int .i64 (giveN (ss i) : Int), .int .i64 (giveE (ss i))]) ∧ Duel w0 w' L P Q B V Y M T U n gs rs (upd ss i (giveS (ss i))) us (giveVs 4 6 vs (ss i)) ws (giveC 6 c (ss i)) d := by
  refine (ks_give h.ks hi).mono ?_
  rintro e w' ⟨rfl, h1, hb⟩
  exact ⟨rfl, h.prog hi h1 hb⟩
theorem d_rgive (h : Duel w0 W L P Q B V Y M T U n gs rs ss us vs ws c d) {i : Nat} (hi : i < n) :
    Calls Try.prog 15 #[.pointer (some ⟨rs i, 0, none⟩)] W fun e w' => e = .returned (.tuple #[.int .i64 (giveN (us i) : Int), .int .i64 (giveE (us i))]) ∧ Duel w0 w' L P Q B V Y M T U n gs rs ss (upd us i (giveS (us i))) vs (giveVs 4 6 ws (us i)) c (giveC 6 d (us i)) := by
  obtain ⟨a, cap, hr⟩ := h.rg i hi
  obtain ⟨g, hC, hg⟩ := h.rc
  refine (rgive21_any W hr h.rl hC h.hl).mono ?_
  rintro e w' ⟨rfl, h1, h2, g', h3, h4, h5⟩
  exact ⟨rfl, h.refd hi hC hg h1 h2 h3 h4 h5 (giveVs_len _ _ _ _)⟩
theorem d_want (h : Duel w0 W L P Q B V Y M T U n gs rs ss us vs ws c d) {i kap : Nat} (hi : i < n) {b : Option Addr} {l : List Int} (hr : RowA W b l) (hl : l.length ≤ 4096) :
    Calls Try.prog 12 #[.pointer (some ⟨gs i, 0, none⟩), .slice b l.length kap] W fun e w' => e = .returned (.int .i64 (wantE 6 (ss i) l)) ∧ Duel w0 w' L P Q B V Y M T U n gs rs (upd ss i (wantS 6 (ss i) l)) us vs ws c d ∧ But [gs i] W w' := by
  refine (ks_want h.ks hi hr hl).mono ?_
  rintro e w' ⟨rfl, h1, hb⟩
  exact ⟨rfl, h.prog hi h1 (hb.mono (by simp)), hb⟩
theorem d_rwant (h : Duel w0 W L P Q B V Y M T U n gs rs ss us vs ws c d) {i kap : Nat} (hi : i < n) {b : Option Addr} {l : List Int} (hr : RowA W b l) (hl : l.length ≤ 4096) :
    Calls Try.prog 13 #[.pointer (some ⟨rs i, 0, none⟩), .slice b l.length kap] W fun e w' => e = .returned (.int .i64 (wantE 6 (us i) l)) ∧ Duel w0 w' L P Q B V Y M T U n gs rs ss (upd us i (wantS 6 (us i) l)) vs ws c d ∧ But [rs i] W w' := by
  obtain ⟨a, cap, hrg⟩ := h.rg i hi
  obtain ⟨g, hC, hg⟩ := h.rc
  refine (rwant_any W hrg h.rl hr hl).mono ?_
  rintro e w' ⟨rfl, ⟨a', cap', h1⟩, hb⟩
  exact ⟨rfl, h.refd hi hC hg h1 (h.rl.guard hrg hb) (hC.guard hrg hb) (.inl rfl) (hb.mono (by simp)) rfl, hb⟩
theorem d_same (h : Duel w0 W L P Q B V Y M T U n gs rs ss ss vs ws c d) {i : Nat} (hi : i < n) (hn : Neat (ss i)) :
    Calls Try.prog 18 #[.pointer (some ⟨gs i, 0, none⟩), .pointer (some ⟨rs i, 0, none⟩)] W fun e w' => e = .returned (.bool true) ∧ But [] W w' := by
  obtain ⟨a, cap, hg⟩ := h.ks.gd i hi
  obtain ⟨a2, cap2, hr⟩ := h.rg i hi
  exact same_any W hg hr hn
theorem d_copy (h : Duel w0 W L P Q B V Y M T U n gs rs ss us vs ws c d) {i : Nat} (hi : i < n) :
    Calls Try.prog 16 #[.pointer (some ⟨gs i, 0, none⟩)] W fun e w' => ∃ G, e = .returned (.pointer (some ⟨G, 0, none⟩)) ∧ But [] W w' ∧ Duel w0 (w'.setCell ⟨T, i, none⟩ (.pointer (some ⟨G, 0, none⟩))) L P Q B V Y M T U n (upd gs i G) rs ss us vs ws c d := by
  refine (ks_copy h.ks hi).mono ?_
  rintro e w' ⟨rfl, h1, hb⟩
  have h2 := h.fresh hb
  have hbs := (But.refl [T] w').set (p := ⟨T, i, none⟩) (.inl (by simp)) (.pointer (some ⟨W.heap.size, 0, none⟩))
  obtain ⟨g, hC, hg⟩ := h2.rc
  obtain ⟨k1, hM, -⟩ := hC.head
  obtain ⟨cs, z, hR⟩ := hC.row
  refine ⟨W.heap.size, rfl, hb, ⟨h1.but' hbs (by simpa using h.town.1) (Alien.cons h2.gt (by decide) (Alien.nil _)), h2.rl.but hbs ?_, ⟨g, hC.but hbs ?_ ?_, hg⟩, h2.wl, fun j hj => ?_, h2.rinj, h2.rown, ?_, h2.ut.but hbs ?_, h2.town⟩⟩
  · simpa using type_ne h2.rl.head h2.gt (by decide)
  · simpa using type_ne hM h2.gt (by decide)
  · simpa using type_ne hR h2.gt (by decide)
  · obtain ⟨a2, cap2, hr⟩ := h2.rg j hj
    exact ⟨a2, cap2, hr.but hbs (by simpa using type_ne hr.head h2.gt (by decide)) (NotInts.cons h2.gt (by decide) (NotInts.nil _))⟩
  · have := h2.gt.set i (.pointer (some ⟨W.heap.size, 0, none⟩))
    rwa [PtrN.turn _ _ hi] at this
  · simpa using type_ne h2.ut h2.gt (by decide)
end
end Go.Proofs.Ytbjfongjdlankaa
