/-
  The walks of Begin, of the law's sane, and of its alive.
-/
import Derived.Test.YtplajidagpimdaaHRun
import Derived.Test.YtplajidagpimdaaHEq
namespace Go.Proofs.Ytplajidagpimdaa
open Go.RowKit

attribute [local go_sem] eqRegs

def begF (c : Int) : Fra := Fra.at0 c Fra.zero
set_option maxRecDepth 100000 in
set_option maxHeartbeats 800000 in
theorem begin_any (c : Int) (w : World) : Calls Try.prog 18 #[.int .i64 c] w fun e w' => e = .returned (fraV (begF c)) ∧ Below w.heap.size w w' := by
  have hc := spawn_any Fra.zero c (w.alloc (.cells (fraA Fra.zero) 29))
  have hb0 : Below w.heap.size w (w.alloc (.cells (fraA Fra.zero) 29)) := (Below.refl _ w).alloc (Nat.le_refl _) _
  have hZ := blk_new w 29 (fraA Fra.zero)
  obtain ⟨w1, hw1⟩ : ∃ w1, w1 = w.alloc (.cells (fraA Fra.zero) 29) := ⟨_, rfl⟩
  rw [← hw1] at hc hb0 hZ
  go_enter Try.func18, Try.ntmps18
  go_wp2_with fail
  rw [show (#[.int .i64 0, .int .i64 0, .int .i64 0, .int .i64 0, .int .i64 0, .int .i64 0, .int .i64 0, .int .i64 0, .int .i64 0, .int .i64 0] : Array Value) = fraA Fra.zero from rfl, ← hw1]
  clear hw1
  refine hc.mono ?_
  rintro e w2 ⟨rfl, hb⟩
  have hB2 := below_next hb0 hb (Nat.le_refl _)
  have hZ2 := hZ.later hb hZ.lt
  obtain ⟨g, hg⟩ : ∃ g, g = Fra.at0 c Fra.zero := ⟨_, rfl⟩
  rw [← hg]
  have HG : Hid (g = begF c) := Lib.hid hg
  clear hc hb0 hZ hb hg
  obtain ⟨z0, z1, z2, z3, z4, z5, z6, z7, z8, z9⟩ := fra_cells hZ2
  have zf := hZ2.frozen
  obtain ⟨w5, hw5, hX5, hb5⟩ : ∃ w5, w5 = ((((((((((w2.setCell ⟨w.heap.size, 0, none⟩ (.int .i64 g.c)).setCell ⟨w.heap.size, 1, none⟩ (.int .i64 g.p)).setCell ⟨w.heap.size, 2, none⟩ (.int .i64 g.r0)).setCell ⟨w.heap.size, 3, none⟩ (.int .i64 g.r1)).setCell ⟨w.heap.size, 4, none⟩ (.int .i64 g.r2)).setCell ⟨w.heap.size, 5, none⟩ (.int .i64 g.r3)).setCell ⟨w.heap.size, 6, none⟩ (.int .i64 g.r4)).setCell ⟨w.heap.size, 7, none⟩ (.int .i64 g.r5)).setCell ⟨w.heap.size, 8, none⟩ (.int .i64 g.r6)).setCell ⟨w.heap.size, 9, none⟩ (.int .i64 g.r7)) ∧ Blk w5 w.heap.size 29 (fraA g) ∧ But [w.heap.size] w2 w5 := ⟨_, rfl, sto10 hZ2 (.int .i64 g.c) (.int .i64 g.p) (.int .i64 g.r0) (.int .i64 g.r1) (.int .i64 g.r2) (.int .i64 g.r3) (.int .i64 g.r4) (.int .i64 g.r5) (.int .i64 g.r6) (.int .i64 g.r7)⟩
  have hB5 := below_but hB2 hb5 (Nat.le_refl _) (by omega)
  go_wp2_with fail
  rw [← hw5]
  obtain ⟨q0, q1, q2, q3, q4, q5, q6, q7, q8, q9⟩ := fra_cells hX5
  refine bodyPost_ret (v := fraV g) (by simp [results, Try.f18, go_sem, q0, q1, q2, q3, q4, q5, q6, q7, q8, q9]) rfl ?_
  exact ⟨by rw [HG.out], hB5⟩

set_option maxRecDepth 100000 in
set_option maxHeartbeats 800000 in
theorem sane_any {lo hi : Nat} {v1 v2 v3 : Value} {p : Prg} (w : World) (h : PrgAt lo hi w v1 v2 v3 p) (hs : Small p) :
    Calls Try.prog 8 #[.agg #[v1, v2, v3]] w fun e w' => ∃ b, e = .returned (.bool b) ∧ (b = true → checkW p = none) ∧ Below w.heap.size w w' := by
  obtain ⟨wf, hwf⟩ : ∃ wf, wf = w.alloc (.cells #[v1, v2, v3] 26) := ⟨_, rfl⟩
  have hB0 : Below w.heap.size w wf := by rw [hwf]; exact (Below.refl _ w).alloc (Nat.le_refl _) _
  have hc := progCheck_any wf (h.later hB0) hs
  obtain ⟨E, hE⟩ : ∃ E, E = (checkT p).2.2 := ⟨_, rfl⟩
  rw [← hE] at hc
  have HE := Lib.hid hE
  clear hE
  go_enter Try.func8, Try.ntmps8
  go_wp2_with fail
  rw [← hwf]
  clear hwf
  refine hc.mono ?_
  rintro e w1 ⟨rfl, hb⟩
  have hB1 := below_next hB0 hb (Nat.le_refl _)
  go_wp2_with fail
  go_ret
  exact ⟨_, rfl, fun hb => check_zero.1 (by rw [← HE.out]; simpa using hb), hB1⟩

def alP : Prg := one [⟨1, 0, 0, 0, 5⟩, ⟨2, 0, 0, 0, 0⟩, ⟨4, 1, 0, 0, 4⟩, ⟨10, 0, 0, 0, 0⟩, ⟨3, 0, 0, 0, 3⟩]
def alF : Fra := ⟨0, 3, 10, 0, 0, 0, 0, 0, 0, 0⟩
theorem al_may : checkW alP = none := by decide
theorem al_small : Small alP := ⟨by decide, by decide, by decide, by simp [alP, one], by simp [alP, one]⟩
theorem al_run10 : runT alP (begF 0) 10 = (alF, 4, 0) := by kernel_rfl
theorem al_run3 : runT alP (begF 0) 3 = (Fra.zero, 0, 5) := by kernel_rfl
theorem al_step : stepF alP alF = (Fra.zero, 8) := by kernel_rfl
theorem al_step1 : stepF alP (begF 1) = (Fra.zero, 2) := by kernel_rfl
theorem al_at : atF alP alF = some ⟨10, 0, 0, 0, 0⟩ := by kernel_rfl
theorem al_ok : ∀ x ∈ ([⟨1, 0, 0, 0, 5⟩, ⟨2, 0, 0, 0, 0⟩, ⟨4, 1, 0, 0, 4⟩, ⟨10, 0, 0, 0, 0⟩, ⟨3, 0, 0, 0, 3⟩] : List In), x.ok := by
  intro x hx
  simp only [List.mem_cons, List.not_mem_nil, or_false] at hx
  rcases hx with rfl | rfl | rfl | rfl | rfl <;> exact ⟨by decide, ⟨by decide, by decide⟩, ⟨by decide, by decide⟩, ⟨by decide, by decide⟩, ⟨by decide, by decide⟩⟩

/-- What a call leaves: all that was there when it began. -/
structure Goes (wf W W' : World) : Prop where
  below : Below wf.heap.size wf W'
  from' : Below W.heap.size W W'
  size : ∀ A, A < W.heap.size → A < W'.heap.size
  cell : ∀ A k, A < W.heap.size → W'.cell? ⟨A, k, none⟩ = W.cell? ⟨A, k, none⟩
  frozen : ∀ A k, A < W.heap.size → W'.frozen? ⟨A, k, none⟩ = W.frozen? ⟨A, k, none⟩
theorem goes_of {wf W W' : World} (h : Below wf.heap.size wf W) (k : Below W.heap.size W W') : Goes wf W W' :=
  ⟨below_next h k (Nat.le_refl _), k, fun _ hA => Nat.lt_of_lt_of_le hA k.size, fun A _ hA => World.cell?_of_block (k.block A hA), fun A _ hA => World.frozen?_of_block (k.block A hA)⟩

theorem drew_below (wf : World) : Below wf.heap.size wf wf.drew := (Below.refl _ wf).drew
theorem new_below (wf : World) (o : Obj) : Below wf.heap.size wf (wf.alloc o).drew := ((Below.refl _ wf).alloc (Nat.le_refl _) o).drew
theorem sto_fr {W : World} {A : Nat} {f : Fra} (h : FrAt W A f) (g : Fra) : FrAt ((((((((((W.setCell ⟨A, 0, none⟩ (.int .i64 g.c)).setCell ⟨A, 1, none⟩ (.int .i64 g.p)).setCell ⟨A, 2, none⟩ (.int .i64 g.r0)).setCell ⟨A, 3, none⟩ (.int .i64 g.r1)).setCell ⟨A, 4, none⟩ (.int .i64 g.r2)).setCell ⟨A, 5, none⟩ (.int .i64 g.r3)).setCell ⟨A, 6, none⟩ (.int .i64 g.r4)).setCell ⟨A, 7, none⟩ (.int .i64 g.r5)).setCell ⟨A, 8, none⟩ (.int .i64 g.r6)).setCell ⟨A, 9, none⟩ (.int .i64 g.r7)) A g := (sto10 h (.int .i64 g.c) (.int .i64 g.p) (.int .i64 g.r0) (.int .i64 g.r1) (.int .i64 g.r2) (.int .i64 g.r3) (.int .i64 g.r4) (.int .i64 g.r5) (.int .i64 g.r6) (.int .i64 g.r7)).1
theorem sto_below {wf W : World} {A : Nat} (h : Below wf.heap.size wf W) (hA : wf.heap.size ≤ A) (g : Fra) : Below wf.heap.size wf ((((((((((W.setCell ⟨A, 0, none⟩ (.int .i64 g.c)).setCell ⟨A, 1, none⟩ (.int .i64 g.p)).setCell ⟨A, 2, none⟩ (.int .i64 g.r0)).setCell ⟨A, 3, none⟩ (.int .i64 g.r1)).setCell ⟨A, 4, none⟩ (.int .i64 g.r2)).setCell ⟨A, 5, none⟩ (.int .i64 g.r3)).setCell ⟨A, 6, none⟩ (.int .i64 g.r4)).setCell ⟨A, 7, none⟩ (.int .i64 g.r5)).setCell ⟨A, 8, none⟩ (.int .i64 g.r6)).setCell ⟨A, 9, none⟩ (.int .i64 g.r7)) := 
  (((((((((h.setCell hA _).setCell hA _).setCell hA _).setCell hA _).setCell hA _).setCell hA _).setCell hA _).setCell hA _).setCell hA _).setCell hA _
theorem zero_first {wf w2 : World} (h : Goes wf (wf.alloc (.cells #[.int .i64 0, .int .i64 0, .int .i64 0, .int .i64 0, .int .i64 0, .int .i64 0, .int .i64 0, .int .i64 0, .int .i64 0, .int .i64 0] 29)).drew w2) : FrAt w2 wf.heap.size Fra.zero :=
  (blk_new wf 29 (fraA Fra.zero)).drew.later h.from' (by show _ < (wf.alloc _).heap.size; rw [World.size_alloc]; exact Nat.lt_succ_self _)
theorem zero_new {wf w2 w3 : World} (h : Goes wf (w2.alloc (.cells #[.int .i64 0, .int .i64 0, .int .i64 0, .int .i64 0, .int .i64 0, .int .i64 0, .int .i64 0, .int .i64 0, .int .i64 0, .int .i64 0] 29)) w3) : FrAt w3 w2.heap.size Fra.zero :=
  (blk_new w2 29 (fraA Fra.zero)).later h.from' (by rw [World.size_alloc]; exact Nat.lt_succ_self _)
theorem zero_later {wf w2 w3 : World} {A : Nat} (hz : FrAt w2 A Fra.zero) (h : Goes wf w2 w3) : FrAt w3 A Fra.zero := hz.later h.from' hz.lt

set_option maxRecDepth 100000 in
set_option maxHeartbeats 3200000 in
theorem alive_any (w : World) :
    Calls Try.prog 9 #[] w fun e w' => e = .returned (.bool true) ∧ Below w.heap.size w w' := by
  obtain ⟨wf, hwf⟩ : ∃ wf, wf = ((w.alloc (.cells #[.int .u8 1, .int .i64 0, .int .i64 0, .int .i64 0, .int .i64 5, .int .u8 2, .int .i64 0, .int .i64 0, .int .i64 0, .int .i64 0, .int .u8 4, .int .i64 1, .int .i64 0, .int .i64 0, .int .i64 4, .int .u8 10, .int .i64 0, .int .i64 0, .int .i64 0, .int .i64 0, .int .u8 3, .int .i64 0, .int .i64 0, .int .i64 0, .int .i64 3] 33)).alloc (.cells #[.slice (some ⟨w.heap.size, 0, none⟩) 5 5] 52)).alloc (.cells #[.slice none 0 0, .slice (some ⟨w.heap.size + 1, 0, none⟩) 1 1, .slice none 0 0] 26) := ⟨_, rfl⟩
  have hB0 : Below w.heap.size w wf := by rw [hwf]; exact below3 w _ _ _
  have hI : Is wf (w.heap.size + 1) w.heap.size [⟨1, 0, 0, 0, 5⟩, ⟨2, 0, 0, 0, 0⟩, ⟨4, 1, 0, 0, 4⟩, ⟨10, 0, 0, 0, 0⟩, ⟨3, 0, 0, 0, 3⟩] := by rw [hwf]; exact ⟨(blk_at (by simp)).alloc _, ((blk_new w _ _).alloc _).alloc _⟩
  have hP : Blk wf (w.heap.size + 1 + 1) 26 #[.slice none 0 0, .slice (some ⟨w.heap.size + 1, 0, none⟩) 1 1, .slice none 0 0] := by rw [hwf]; exact blk_at (by simp)
  have hA : ∀ W, Below wf.heap.size wf W → PrgAt 0 W.heap.size W (.slice none 0 0) (.slice (some ⟨w.heap.size + 1, 0, none⟩) 1 1) (.slice none 0 0) alP := fun W hW => (hI.later hW (Nat.le_refl _)).at al_ok
  have hk0 : ∀ W, Below wf.heap.size wf W → W.cell? ⟨w.heap.size + 1 + 1, 0, none⟩ = some (.slice none 0 0) := fun W hW => (hP.later hW hP.lt).cell rfl
  have hk1 : ∀ W, Below wf.heap.size wf W → W.cell? ⟨w.heap.size + 1 + 1, 1, none⟩ = some (.slice (some ⟨w.heap.size + 1, 0, none⟩) 1 1) := fun W hW => (hP.later hW hP.lt).cell rfl
  have hk2 : ∀ W, Below wf.heap.size wf W → W.cell? ⟨w.heap.size + 1 + 1, 2, none⟩ = some (.slice none 0 0) := fun W hW => (hP.later hW hP.lt).cell rfl
  go_enter Try.func9, Try.ntmps9
  go_upto_region 2 with fail
  rw [← hwf]
  clear hwf hI hP
  obtain ⟨G, hGe⟩ : ∃ G, G = alF := ⟨_, rfl⟩
  obtain ⟨b0, hbe⟩ : ∃ b0, b0 = begF 0 := ⟨_, rfl⟩
  have cB0 : ∀ W, Below wf.heap.size wf W → Calls Try.prog 18 #[.int .i64 0] W fun e w' => e = .returned (fraV b0) ∧ Goes wf W w' := fun W hW => by
    rw [hbe]
    exact (begin_any 0 W).mono fun e w' ⟨h1, h2⟩ => ⟨h1, goes_of hW h2⟩
  have cR : ∀ W, Below wf.heap.size wf W → Calls Try.prog 15 #[.agg #[.slice none 0 0, .slice (some ⟨w.heap.size + 1, 0, none⟩) 1 1, .slice none 0 0], fraV b0, .int .i64 10] W fun e w' => e = .returned (.tuple #[fraV G, .int .i64 4, .int .i64 0]) ∧ Goes wf W w' := fun W hW => by
    rw [hGe, hbe]
    have := run_any W (hA W (below_next (Below.refl _ wf) hW (Nat.le_refl _))) al_small al_may (begF 0) 10
    rw [al_run10] at this
    exact this.mono fun e w' ⟨h1, h2⟩ => ⟨h1, goes_of hW h2⟩
  have hSS : ∀ w', Below wf.heap.size wf w' → w'.cell? ⟨w.heap.size + 1 + 1, 0, none⟩ = some (.slice none 0 0) ∧ w'.cell? ⟨w.heap.size + 1 + 1, 1, none⟩ = some (.slice (some ⟨w.heap.size + 1, 0, none⟩) 1 1) ∧ w'.cell? ⟨w.heap.size + 1 + 1, 2, none⟩ = some (.slice none 0 0) ∧ Below wf.heap.size wf w' := fun W hW => ⟨hk0 W (below_next (Below.refl _ wf) hW (Nat.le_refl _)), hk1 W (below_next (Below.refl _ wf) hW (Nat.le_refl _)), hk2 W (below_next (Below.refl _ wf) hW (Nat.le_refl _)), hW⟩
  clear hbe
  have HGe := Lib.hid hGe
  clear hGe
  go_cut [2, 3, 4] from 23 to 29 (fun x0 x1 x2 W => ∃ A, x0 = .pointer (some ⟨A, 0, none⟩) ∧ x1 = .int .i64 4 ∧ x2 = .int .i64 0 ∧ wf.heap.size ≤ A ∧ FrAt W A G ∧ Below wf.heap.size wf W)
  case first =>
    go_region_held3 (fun w' => w'.cell? ⟨w.heap.size + 1 + 1, 0, none⟩ = some (.slice none 0 0) ∧ w'.cell? ⟨w.heap.size + 1 + 1, 1, none⟩ = some (.slice (some ⟨w.heap.size + 1, 0, none⟩) 1 1) ∧ w'.cell? ⟨w.heap.size + 1 + 1, 2, none⟩ = some (.slice none 0 0) ∧ Below wf.heap.size wf w')
      (refine hSS _ ?_ <;> with_reducible first | exact hb3 | exact sto_below hb3 hz2 _ | exact sto_below hb3 (Nat.le_refl _) _ | exact bA hb3 _ | exact hb2 | exact bA hb2 _ | exact drew_below _ | exact new_below _ _)
      ((first
        | (go_at_call 18; refine (cB0 _ (by with_reducible first | exact hb2 | exact bA hb2 _ | exact drew_below _ | exact new_below _ _)).mono ?_; rintro e w2 ⟨rfl, hG2⟩; have hb2 := hG2.below; have hz2 := hb2.size; (try (with_reducible have hbz0 := zero_first hG2)); have HG2 := Lib.hid hG2; clear hG2)
        | (go_at_call 15; refine (cR _ (by with_reducible first | exact hb2 | exact bA hb2 _ | exact drew_below _ | exact new_below _ _)).mono ?_; rintro e w3 ⟨rfl, hG3⟩; have hb3 := hG3.below; (try (with_reducible have hbz1 := zero_later hbz0 hG3; obtain ⟨z0, z1, z2, z3, z4, z5, z6, z7, z8, z9⟩ := fra_cells hbz1; have zf := hbz1.frozen)); (try (with_reducible have hbz1 := zero_new hG3; obtain ⟨z0, z1, z2, z3, z4, z5, z6, z7, z8, z9⟩ := fra_cells hbz1; have zf := hbz1.frozen)); have HG3 := Lib.hid hG3; clear hG3)))
    all_goals go_wp2_with fail
    all_goals go_meet
    all_goals with_reducible first
    | exact ⟨_, rfl, rfl, rfl, hb3.size, blk_new w3 _ _, bA hb3 _⟩
    | exact ⟨_, rfl, rfl, rfl, hz2, sto_fr hbz1 _, sto_below hb3 hz2 _⟩
    | exact ⟨_, rfl, rfl, rfl, Nat.le_refl _, sto_fr hbz1 _, sto_below hb3 (Nat.le_refl _) _⟩
  case rest =>
    obtain ⟨A, rfl, rfl, rfl, hAl, hA2, hB2⟩ := hcut
    obtain ⟨v3, rfl⟩ : ∃ v3, v3 = wc := ⟨_, rfl⟩
    rw [HGe.out] at hA2
    clear cB0 cR hSS HGe G b0
    have p0 := hk0 v3 hB2
    have p1 := hk1 v3 hB2
    have p2 := hk2 v3 hB2
    have hlA := hA2.lt
    go_upto_region 3 with fail
    clear p0 p1 p2
    obtain ⟨G, hGe⟩ : ∃ G, G = Fra.zero := ⟨_, rfl⟩
    obtain ⟨b0, hbe⟩ : ∃ b0, b0 = begF 0 := ⟨_, rfl⟩
    have cB0 : ∀ W, Below v3.heap.size v3 W → Calls Try.prog 18 #[.int .i64 0] W fun e w' => e = .returned (fraV b0) ∧ Goes v3 W w' := fun W hW => by
      rw [hbe]
      exact (begin_any 0 W).mono fun e w' ⟨h1, h2⟩ => ⟨h1, goes_of hW h2⟩
    have cR : ∀ W, Below v3.heap.size v3 W → Calls Try.prog 15 #[.agg #[.slice none 0 0, .slice (some ⟨w.heap.size + 1, 0, none⟩) 1 1, .slice none 0 0], fraV b0, .int .i64 3] W fun e w' => e = .returned (.tuple #[fraV G, .int .i64 0, .int .i64 5]) ∧ Goes v3 W w' := fun W hW => by
      rw [hGe, hbe]
      have := run_any W (hA W (below_next hB2 hW (Nat.le_refl _))) al_small al_may (begF 0) 3
      rw [al_run3] at this
      exact this.mono fun e w' ⟨h1, h2⟩ => ⟨h1, goes_of hW h2⟩
    have hSS : ∀ w', Below v3.heap.size v3 w' → w'.cell? ⟨w.heap.size + 1 + 1, 0, none⟩ = some (.slice none 0 0) ∧ w'.cell? ⟨w.heap.size + 1 + 1, 1, none⟩ = some (.slice (some ⟨w.heap.size + 1, 0, none⟩) 1 1) ∧ w'.cell? ⟨w.heap.size + 1 + 1, 2, none⟩ = some (.slice none 0 0) ∧ Below v3.heap.size v3 w' := fun W hW => ⟨hk0 W (below_next hB2 hW (Nat.le_refl _)), hk1 W (below_next hB2 hW (Nat.le_refl _)), hk2 W (below_next hB2 hW (Nat.le_refl _)), hW⟩
    clear hbe
    have HGe := Lib.hid hGe
    clear hGe
    go_cut [5, 6, 7] from 30 to 36 (fun x0 x1 x2 W => ∃ A, x0 = .pointer (some ⟨A, 0, none⟩) ∧ x1 = .int .i64 0 ∧ x2 = .int .i64 5 ∧ v3.heap.size ≤ A ∧ FrAt W A G ∧ Below v3.heap.size v3 W)
    case first =>
      go_region_held3 (fun w' => w'.cell? ⟨w.heap.size + 1 + 1, 0, none⟩ = some (.slice none 0 0) ∧ w'.cell? ⟨w.heap.size + 1 + 1, 1, none⟩ = some (.slice (some ⟨w.heap.size + 1, 0, none⟩) 1 1) ∧ w'.cell? ⟨w.heap.size + 1 + 1, 2, none⟩ = some (.slice none 0 0) ∧ Below v3.heap.size v3 w')
        (refine hSS _ ?_ <;> with_reducible first | exact hb3 | exact sto_below hb3 hz2 _ | exact sto_below hb3 (Nat.le_refl _) _ | exact bA hb3 _ | exact hb2 | exact bA hb2 _ | exact drew_below _ | exact new_below _ _)
        ((first
          | (go_at_call 18; refine (cB0 _ (by with_reducible first | exact hb2 | exact bA hb2 _ | exact drew_below _ | exact new_below _ _)).mono ?_; rintro e w2 ⟨rfl, hG2⟩; have hb2 := hG2.below; have hz2 := hb2.size; (try (with_reducible have hbz0 := zero_first hG2)); have HG2 := Lib.hid hG2; clear hG2)
          | (go_at_call 15; refine (cR _ (by with_reducible first | exact hb2 | exact bA hb2 _ | exact drew_below _ | exact new_below _ _)).mono ?_; rintro e w3 ⟨rfl, hG3⟩; have hb3 := hG3.below; (try (with_reducible have hbz1 := zero_later hbz0 hG3; obtain ⟨z0, z1, z2, z3, z4, z5, z6, z7, z8, z9⟩ := fra_cells hbz1; have zf := hbz1.frozen)); (try (with_reducible have hbz1 := zero_new hG3; obtain ⟨z0, z1, z2, z3, z4, z5, z6, z7, z8, z9⟩ := fra_cells hbz1; have zf := hbz1.frozen)); have HG3 := Lib.hid hG3; clear hG3)))
      all_goals go_wp2_with fail
      all_goals go_meet
      all_goals with_reducible first
      | exact ⟨_, rfl, rfl, rfl, hb3.size, blk_new w3 _ _, bA hb3 _⟩
      | exact ⟨_, rfl, rfl, rfl, hz2, sto_fr hbz1 _, sto_below hb3 hz2 _⟩
      | exact ⟨_, rfl, rfl, rfl, Nat.le_refl _, sto_fr hbz1 _, sto_below hb3 (Nat.le_refl _) _⟩
    case rest =>
      obtain ⟨A5, rfl, rfl, rfl, -, -, hB3⟩ := hcut
      obtain ⟨v4, rfl⟩ : ∃ v4, v4 = wc := ⟨_, rfl⟩
      have hBv4 : Below wf.heap.size wf v4 := below_next hB2 hB3 (Nat.le_refl _)
      have hA4 := hA2.later hB3 hlA
      clear cB0 cR hSS HGe G b0 hB3 hA2 hB2
      have p0 := hk0 v4 hBv4
      have p1 := hk1 v4 hBv4
      have p2 := hk2 v4 hBv4
      obtain ⟨q0, q1, q2, q3, q4, q5, q6, q7, q8, q9⟩ := fra_cells hA4
      have hst := step_any v4 (hA v4 hBv4) al_small al_may alF
      rw [al_step] at hst
      go_wp2_with fail
      refine hst.mono ?_
      rintro e v5 ⟨rfl, hb5⟩
      have hBv5 : Below wf.heap.size wf v5 := below_next hBv4 hb5 (Nat.le_refl _)
      have hA5 := hA4.later hb5 hA4.lt
      clear hst hb5 hA4 hBv4 p0 p1 p2 q0 q1 q2 q3 q4 q5 q6 q7 q8 q9
      go_upto_region 5 with fail
      obtain ⟨v6, hv6⟩ : ∃ v6, v6 = v5.alloc (.cells (fraA Fra.zero) 29) := ⟨_, rfl⟩
      have hA6 : FrAt v6 A alF := by rw [hv6]; exact hA5.alloc _
      have hB6 : Below wf.heap.size wf v6 := by rw [hv6]; exact bA hBv5 _
      rw [← hv6]
      clear hv6 hA5 hBv5
      obtain ⟨G, hGe⟩ : ∃ G, G = Fra.zero := ⟨_, rfl⟩
      obtain ⟨b0, hbe⟩ : ∃ b0, b0 = begF 1 := ⟨_, rfl⟩
      have cB0 : ∀ W, Below v6.heap.size v6 W → Calls Try.prog 18 #[.int .i64 1] W fun e w' => e = .returned (fraV b0) ∧ Goes v6 W w' := fun W hW => by
        rw [hbe]
        exact (begin_any 1 W).mono fun e w' ⟨h1, h2⟩ => ⟨h1, goes_of hW h2⟩
      have cR : ∀ W, Below v6.heap.size v6 W → Calls Try.prog 13 #[.agg #[.slice none 0 0, .slice (some ⟨w.heap.size + 1, 0, none⟩) 1 1, .slice none 0 0], fraV b0] W fun e w' => e = .returned (.tuple #[fraV G, .int .i64 2]) ∧ Goes v6 W w' := fun W hW => by
        rw [hGe, hbe]
        have := step_any W (hA W (below_next hB6 hW (Nat.le_refl _))) al_small al_may (begF 1)
        rw [al_step1] at this
        exact this.mono fun e w' ⟨h1, h2⟩ => ⟨h1, goes_of hW h2⟩
      have hSS : ∀ w', Below v6.heap.size v6 w' → w'.cell? ⟨w.heap.size + 1 + 1, 0, none⟩ = some (.slice none 0 0) ∧ w'.cell? ⟨w.heap.size + 1 + 1, 1, none⟩ = some (.slice (some ⟨w.heap.size + 1, 0, none⟩) 1 1) ∧ w'.cell? ⟨w.heap.size + 1 + 1, 2, none⟩ = some (.slice none 0 0) ∧ Below v6.heap.size v6 w' := fun W hW => ⟨hk0 W (below_next hB6 hW (Nat.le_refl _)), hk1 W (below_next hB6 hW (Nat.le_refl _)), hk2 W (below_next hB6 hW (Nat.le_refl _)), hW⟩
      clear hbe
      have HGe := Lib.hid hGe
      clear hGe
      go_cut [10, 11] from 43 to 48 (fun x0 x1 W => ∃ A, x0 = .pointer (some ⟨A, 0, none⟩) ∧ x1 = .int .i64 2 ∧ v6.heap.size ≤ A ∧ FrAt W A G ∧ Below v6.heap.size v6 W)
      case first =>
        go_region_held3 (fun w' => w'.cell? ⟨w.heap.size + 1 + 1, 0, none⟩ = some (.slice none 0 0) ∧ w'.cell? ⟨w.heap.size + 1 + 1, 1, none⟩ = some (.slice (some ⟨w.heap.size + 1, 0, none⟩) 1 1) ∧ w'.cell? ⟨w.heap.size + 1 + 1, 2, none⟩ = some (.slice none 0 0) ∧ Below v6.heap.size v6 w')
          (refine hSS _ ?_ <;> with_reducible first | exact hb3 | exact sto_below hb3 hz2 _ | exact sto_below hb3 (Nat.le_refl _) _ | exact bA hb3 _ | exact hb2 | exact bA hb2 _ | exact drew_below _ | exact new_below _ _)
          ((first
            | (go_at_call 18; refine (cB0 _ (by with_reducible first | exact hb2 | exact bA hb2 _ | exact drew_below _ | exact new_below _ _)).mono ?_; rintro e w2 ⟨rfl, hG2⟩; have hb2 := hG2.below; have hz2 := hb2.size; (try (with_reducible have hbz0 := zero_first hG2)); have HG2 := Lib.hid hG2; clear hG2)
            | (go_at_call 13; refine (cR _ (by with_reducible first | exact hb2 | exact bA hb2 _ | exact drew_below _ | exact new_below _ _)).mono ?_; rintro e w3 ⟨rfl, hG3⟩; have hb3 := hG3.below; (try (with_reducible have hbz1 := zero_later hbz0 hG3; obtain ⟨z0, z1, z2, z3, z4, z5, z6, z7, z8, z9⟩ := fra_cells hbz1; have zf := hbz1.frozen)); (try (with_reducible have hbz1 := zero_new hG3; obtain ⟨z0, z1, z2, z3, z4, z5, z6, z7, z8, z9⟩ := fra_cells hbz1; have zf := hbz1.frozen)); have HG3 := Lib.hid hG3; clear hG3)))
        all_goals go_wp2_with fail
        all_goals go_meet
        all_goals with_reducible first
        | exact ⟨_, rfl, rfl, hb3.size, blk_new w3 _ _, bA hb3 _⟩
        | exact ⟨_, rfl, rfl, hz2, sto_fr hbz1 _, sto_below hb3 hz2 _⟩
        | exact ⟨_, rfl, rfl, Nat.le_refl _, sto_fr hbz1 _, sto_below hb3 (Nat.le_refl _) _⟩
      case rest =>
        obtain ⟨A10, rfl, rfl, -, -, hB7⟩ := hcut
        obtain ⟨v7, rfl⟩ : ∃ v7, v7 = wc := ⟨_, rfl⟩
        have hBv7 : Below wf.heap.size wf v7 := below_next hB6 hB7 (Nat.le_refl _)
        have hA7 := hA6.later hB7 hA6.lt
        clear cB0 cR hSS HGe G b0 hB7 hA6 hB6
        have p0 := hk0 v7 hBv7
        have p1 := hk1 v7 hBv7
        have p2 := hk2 v7 hBv7
        obtain ⟨q0, q1, q2, q3, q4, q5, q6, q7, q8, q9⟩ := fra_cells hA7
        have hat := fat_any v7 (hA v7 hBv7) al_small alF
        rw [al_at] at hat
        go_wp2_with fail
        refine hat.mono ?_
        rintro e v8 ⟨rfl, hb8⟩
        have hBv8 : Below wf.heap.size wf v8 := below_next hBv7 hb8 (Nat.le_refl _)
        have hA8 := hA7.later hb8 hA7.lt
        clear hat hb8 hA7 hBv7 p0 p1 p2 q0 q1 q2 q3 q4 q5 q6 q7 q8 q9
        rw [show insV ((some (⟨10, 0, 0, 0, 0⟩ : In)).getD In.zero) = .agg #[.int .u8 10, .int .i64 0, .int .i64 0, .int .i64 0, .int .i64 0] from rfl, show (some (⟨10, 0, 0, 0, 0⟩ : In)).isSome = true from rfl]
        obtain ⟨v9, hv9⟩ : ∃ v9, v9 = v8.alloc (.cells #[.int .u8 10, .int .i64 0, .int .i64 0, .int .i64 0, .int .i64 0] 33) := ⟨_, rfl⟩
        have hA9 : FrAt v9 A alF := by rw [hv9]; exact hA8.alloc _
        have hB9 : Below wf.heap.size wf v9 := by rw [hv9]; exact bA hBv8 _
        have hX9 : Blk v9 v8.heap.size 33 #[.int .u8 10, .int .i64 0, .int .i64 0, .int .i64 0, .int .i64 0] := by rw [hv9]; exact blk_new v8 _ _
        have hsp := spawn_any alF 2 v9
        obtain ⟨q0, q1, q2, q3, q4, q5, q6, q7, q8, q9⟩ := fra_cells hA9
        rw [hv9] at q0 q1 q2 q3 q4 q5 q6 q7 q8 q9
        go_wp2_with fail
        rw [← hv9]
        clear hv9 q0 q1 q2 q3 q4 q5 q6 q7 q8 q9
        refine hsp.mono ?_
        rintro e v10 ⟨rfl, hb10⟩
        have hA10 := hA9.later hb10 hA9.lt
        have hX10 := hX9.later hb10 hX9.lt
        have hB10 : Below wf.heap.size wf v10 := below_next hB9 hb10 (Nat.le_refl _)
        obtain ⟨v11, hv11⟩ : ∃ v11, v11 = v10.alloc (.cells #[.int .i64 2, .int .i64 0, .int .i64 10, .int .i64 0, .int .i64 0, .int .i64 0, .int .i64 0, .int .i64 0, .int .i64 0, .int .i64 0] 29) := ⟨_, rfl⟩
        have hA11 : FrAt v11 A alF := by rw [hv11]; exact hA10.alloc _
        have hX11 : Blk v11 v8.heap.size 33 #[.int .u8 10, .int .i64 0, .int .i64 0, .int .i64 0, .int .i64 0] := by rw [hv11]; exact hX10.alloc _
        have hY11 : Blk v11 v10.heap.size 29 #[.int .i64 2, .int .i64 0, .int .i64 10, .int .i64 0, .int .i64 0, .int .i64 0, .int .i64 0, .int .i64 0, .int .i64 0, .int .i64 0] := by rw [hv11]; exact blk_new v10 _ _
        have hB11 : Below wf.heap.size wf v11 := by rw [hv11]; exact bA hB10 _
        rw [show fraV (Fra.at0 2 alF) = .agg #[.int .i64 2, .int .i64 0, .int .i64 10, .int .i64 0, .int .i64 0, .int .i64 0, .int .i64 0, .int .i64 0, .int .i64 0, .int .i64 0] from rfl]
        have hBend := below_next hB0 hB11 (Nat.le_refl _)
        clear hsp hA8 hA9 hX9 hA10 hX10 hB9 hB10 hb10 hBv8
        have q0 : v11.cell? ⟨A, 0, none⟩ = some (.int .i64 0) := hA11.cell (k := 0) rfl
        have q1 : v11.cell? ⟨A, 1, none⟩ = some (.int .i64 3) := hA11.cell (k := 1) rfl
        have q2 : v11.cell? ⟨A, 2, none⟩ = some (.int .i64 10) := hA11.cell (k := 2) rfl
        have q3 : v11.cell? ⟨A, 3, none⟩ = some (.int .i64 0) := hA11.cell (k := 3) rfl
        have q4 : v11.cell? ⟨A, 4, none⟩ = some (.int .i64 0) := hA11.cell (k := 4) rfl
        have q5 : v11.cell? ⟨A, 5, none⟩ = some (.int .i64 0) := hA11.cell (k := 5) rfl
        have q6 : v11.cell? ⟨A, 6, none⟩ = some (.int .i64 0) := hA11.cell (k := 6) rfl
        have q7 : v11.cell? ⟨A, 7, none⟩ = some (.int .i64 0) := hA11.cell (k := 7) rfl
        have q8 : v11.cell? ⟨A, 8, none⟩ = some (.int .i64 0) := hA11.cell (k := 8) rfl
        have q9 : v11.cell? ⟨A, 9, none⟩ = some (.int .i64 0) := hA11.cell (k := 9) rfl
        have x0 : v11.cell? ⟨v8.heap.size, 0, none⟩ = some (.int .u8 10) := hX11.cell (k := 0) rfl
        have y0 : v11.cell? ⟨v10.heap.size, 0, none⟩ = some (.int .i64 2) := hY11.cell (k := 0) rfl
        have y1 : v11.cell? ⟨v10.heap.size, 1, none⟩ = some (.int .i64 0) := hY11.cell (k := 1) rfl
        have y2 : v11.cell? ⟨v10.heap.size, 2, none⟩ = some (.int .i64 10) := hY11.cell (k := 2) rfl
        have y3 : v11.cell? ⟨v10.heap.size, 3, none⟩ = some (.int .i64 0) := hY11.cell (k := 3) rfl
        have y4 : v11.cell? ⟨v10.heap.size, 4, none⟩ = some (.int .i64 0) := hY11.cell (k := 4) rfl
        have y5 : v11.cell? ⟨v10.heap.size, 5, none⟩ = some (.int .i64 0) := hY11.cell (k := 5) rfl
        have y6 : v11.cell? ⟨v10.heap.size, 6, none⟩ = some (.int .i64 0) := hY11.cell (k := 6) rfl
        have y7 : v11.cell? ⟨v10.heap.size, 7, none⟩ = some (.int .i64 0) := hY11.cell (k := 7) rfl
        have y8 : v11.cell? ⟨v10.heap.size, 8, none⟩ = some (.int .i64 0) := hY11.cell (k := 8) rfl
        have y9 : v11.cell? ⟨v10.heap.size, 9, none⟩ = some (.int .i64 0) := hY11.cell (k := 9) rfl
        rw [hv11] at q0 q1 q2 q3 q4 q5 q6 q7 q8 q9 x0 y0 y1 y2 y3 y4 y5 y6 y7 y8 y9
        clear hA11 hX11 hY11
        go_wp2_with fail
        rw [← hv11]
        go_ret
        exact ⟨rfl, hBend⟩
end Go.Proofs.Ytplajidagpimdaa
