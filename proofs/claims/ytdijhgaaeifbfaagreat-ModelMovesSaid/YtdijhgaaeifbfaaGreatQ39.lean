/-
  ModelMoves: its walks, part 39: DApply2 DApply3 DAny DAll.
-/
import Derived.Test.YtdijhgaaeifbfaaGreatQ00
import Derived.Test.YtdijhgaaeifbfaaGreatQ38
set_option maxRecDepth 100000
set_option maxHeartbeats 12800000
namespace Go.Proofs.YtdijhgaaeifbfaaGreat.Mdl
open Go.RowKit
open Ent (En EnRow okB)
open Mch (Frm below1 below_nx boxed_below)
section
variable {o : Nat -> Nat} {B : Nat} {M : Mod} {x : En}
theorem moves_len (h : Inv M) (t : Int) : (M.moves t).length <= 1000 := by
  have hb : ∀ i (c : Cha), (befallE M t i c).length <= 1 := fun i c => by
    unfold befallE
    split
    · split
      · simp
      · split <;> simp
    · simp
  have hfl : ∀ (l : List (List En)), (∀ y ∈ l, y.length <= 1) -> l.flatten.length <= l.length := fun l => by
    induction l with
    | nil => intro _; simp
    | cons y l ih => intro hy; have h1 := ih (fun z hz => hy z (List.mem_cons_of_mem _ hz)); have h2 := hy y (List.mem_cons_self ..); simp only [List.flatten_cons, List.length_append, List.length_cons]; omega
  have hmo : ∀ idle l, l.length <= 100 -> (movesO M t idle l).length <= 1000 := fun idle l hl => by
    unfold movesO
    split
    · simp
    · have := commits_len (M := M) (t := t) l; omega
  unfold Mod.moves
  split
  · simp
  · split
    · simp
    · split
      · unfold befalls
        have h1 := hfl (M.C.mapIdx (befallE M t)) (fun y hy => by
          obtain ⟨i, hi, rfl⟩ := List.mem_iff_getElem.1 hy
          rw [List.getElem_mapIdx]; exact hb _ _)
        rw [List.length_mapIdx] at h1
        have := h.c6
        omega
      · split
        · simp
        · rename_i h0
          have h0' : (M.stand t).2 = 0 := by simpa using h0
          have hS := h.stands h0'
          unfold mayE
          split
          · exact hmo _ _ (hS.tries (.inl (by assumption))).len
          · exact hmo _ _ (hS.tries (.inr (.inl (by assumption)))).len
          · exact hmo _ _ (hS.tries (.inr (.inr (by assumption)))).len
          · simp
          · simp
          · simp
set_option linter.unusedSimpArgs false in
theorem apply_not (w : World) (h : Md w o B M) (hI : Inv M) (he : M.e = 0) (hx : x.ok) (hb : okB x = true) (hk : (decide (1 <= x.k) && decide (x.k <= 11)) = true) (hm : En.at0 x ∉ M.moves x.t) :
    Calls Tryz.prog 14 #[ptrV B, enV x] w (AppPost o B M 171 w) := by
  obtain ⟨w2, hw2⟩ : ∃ w2, w2 = (w.alloc (.cells (enA x) 32)).alloc (.cells #[.int .i64 0] 28) := ⟨_, rfl⟩
  have hB2 : Below w.heap.size w w2 := by rw [hw2]; exact below2 w _ _
  have hX2 : Blk w2 w.heap.size 32 (enA x) := by rw [hw2]; exact (blk_new w _ _).alloc _
  have hE2 : Boxed w2 (w.heap.size + 1) 28 (.int .i64 0) := by
    have h1 := Boxed.new (w.alloc (.cells (enA x) 32)) 28 (.int .i64 0)
    rw [World.size_alloc] at h1
    rw [hw2]; exact h1
  have hM2 := h.below hB2
  have hG2 : Goes o o w w2 := Goes.of_below hB2
  have hE0 : o (w.heap.size + 1) = 0 := h.off (by omega)
  have hhl := halted_any w2 hM2
  have hmf : ∀ (fn : Fn) (first cap : Array Value) (w : World), (Instr.makeFunc fn first cap).run Tryz.prog w = .ok (.func fn first cap) w := fun _ _ _ _ => rfl
  have hA0 : o w.heap.size = 0 := h.off (Nat.le_refl _)
  have hne : (M.e != 0) = false := by simpa using he
  rw [hne] at hhl
  have hck := Ent.check_any x hx w2
  rw [show Ent.checkE x = 0 by unfold Ent.checkE; rw [hb]; rfl] at hck
  have hck' : Calls Tryz.prog 38 #[enV x] w2 fun e w' => e = .returned (.int .i64 0) /\ Below w2.heap.size w2 w' := hck
  have hcm := fun W => commitE_any x.k W hx.k
  rw [hk] at hcm
  have hmv := fun (W : World) (hW : Below w2.heap.size w2 W) => mmoves_any x.t W (hM2.below hW) hI.sane
  have hml : (M.moves x.t).length <= 1000 := moves_len hI x.t
  obtain ⟨L, hL⟩ : ∃ L, L = M.moves x.t := ⟨_, rfl⟩
  simp only [<- hL] at hmv
  rw [<- hL] at hml
  have HL := Lib.hid hL
  have hkc : ∀ W, Below w2.heap.size w2 W -> W.cell? ⟨w.heap.size, 1, none⟩ = some (.int .u8 (x.k : Int)) := fun W hW => Blk.cell (hX2.later hW hX2.lt) rfl
  obtain ⟨y, hy⟩ : ∃ y : En, y = En.at0 x := ⟨_, rfl⟩
  have hct := fun (W : World) (v : Value) (hR : EnRow W v L) => contains_any y v L W hR (by omega)
  have hyt : y.t = x.t := by rw [hy]; rfl
  have hyk : y.k = x.k := by rw [hy]; rfl
  have HY := Lib.hid hy
  have x0 : w2.cell? ⟨w.heap.size, 0, none⟩ = some (.int .i64 x.a) := Blk.cell hX2 rfl
  have x1 : w2.cell? ⟨w.heap.size, 1, none⟩ = some (.int .u8 (x.k : Int)) := Blk.cell hX2 rfl
  have x2 : w2.cell? ⟨w.heap.size, 2, none⟩ = some (.int .i64 x.w) := Blk.cell hX2 rfl
  have x3 : w2.cell? ⟨w.heap.size, 3, none⟩ = some (.int .i64 x.t) := Blk.cell hX2 rfl
  have x4 : w2.cell? ⟨w.heap.size, 4, none⟩ = some (.int .i64 x.p) := Blk.cell hX2 rfl
  have x5 : w2.cell? ⟨w.heap.size, 5, none⟩ = some (.int .i64 x.c) := Blk.cell hX2 rfl
  have x6 : w2.cell? ⟨w.heap.size, 6, none⟩ = some (.int .i64 x.b) := Blk.cell hX2 rfl
  have x7 : w2.cell? ⟨w.heap.size, 7, none⟩ = some (.int .i64 x.q) := Blk.cell hX2 rfl
  have x8 : w2.cell? ⟨w.heap.size, 8, none⟩ = some (.int .i64 x.v) := Blk.cell hX2 rfl
  have x9 : w2.cell? ⟨w.heap.size, 9, none⟩ = some (.int .i64 x.u) := Blk.cell hX2 rfl
  have x10 : w2.cell? ⟨w.heap.size, 10, none⟩ = some (.bool x.o) := Blk.cell hX2 rfl
  have x11 : w2.cell? ⟨w.heap.size, 11, none⟩ = some (.int .i64 x.e) := Blk.cell hX2 rfl
  have x12 : w2.cell? ⟨w.heap.size, 12, none⟩ = some (.int .u64 (x.s : Int)) := Blk.cell hX2 rfl
  have hF : decide (y ∈ L) = false := by rw [hy, hL]; simpa using hm
  simp only [hF] at hct
  clear hne he h hB2 hx hb hck hk hm hF hyk hmv hL hy
  go_enter_defers Tryz.func14, Tryz.ntmps14
  go_wp2_with fail
  rw [<- hw2]
  clear hw2
  refine (mneed_ok 1 w2).mono ?_
  rintro e w2 ⟨rfl, rfl⟩
  go_wp2_with fail
  refine hhl.mono ?_
  rintro e w2 ⟨rfl, rfl⟩
  go_wp2_with fail
  refine (mneed_ok 170 w2).mono ?_
  rintro e w2 ⟨rfl, rfl⟩
  go_wp2_with fail
  refine hck'.mono ?_
  rintro e w3 ⟨rfl, hb3⟩
  have hX3 := hX2.later hb3 hX2.lt
  have y0 : w3.cell? ⟨w.heap.size, 0, none⟩ = some (.int .i64 x.a) := Blk.cell hX3 rfl
  have y1 := hkc w3 hb3
  have yf := hX3.frozen
  clear hkc hck'
  go_wp2_with fail
  refine (hcm w3).mono ?_
  rintro e w3 ⟨rfl, rfl⟩
  go_wp2_with fail
  refine (mneed_ok 2 w3).mono ?_
  rintro e w3 ⟨rfl, rfl⟩
  go_upto_region 6 with fail
  have hX4 : Blk (w3.setCell ⟨w.heap.size, 0, none⟩ (.int .i64 0)) w.heap.size 32 (enA y) := by
    have := hX3.set 0 (.int .i64 0)
    rw [HY.out]; simpa [enA, En.at0] using this
  have hF4 : Frm (fun j => j = w.heap.size) w3 (w3.setCell ⟨w.heap.size, 0, none⟩ (.int .i64 0)) := Mch.Frm.set (F := fun j => j = w.heap.size) (p := ⟨w.heap.size, 0, none⟩) w3 _ rfl
  have hM4 := md_off (hM2.below hb3) hF4 hA0
  have hE4 : Boxed (w3.setCell ⟨w.heap.size, 0, none⟩ (.int .i64 0)) (w.heap.size + 1) 28 (.int .i64 0) := Mch.boxed_frm (boxed_below hE2 hb3) hF4 (by omega)
  have hG4 : Goes o o w (w3.setCell ⟨w.heap.size, 0, none⟩ (.int .i64 0)) := by
    have h3 := hG2.trans (Goes.of_below hb3)
    exact ⟨fun _ _ => rfl, Mch.Frm.trans_new h3.frm hF4 (fun i hi => .inr (by omega))⟩
  generalize w3.setCell ⟨w.heap.size, 0, none⟩ (.int .i64 0) = w4 at hX4 hM4 hE4 hG4 ⊢
  clear hX3 hF4 y0 y1 yf hb3 hX2 hM2 hE2 hG2 hcm x0 x1 x2 x3 x4 x5 x6 x7 x8 x9 x10 x11 x12
  have r0 : Below w4.heap.size w4 w4.drew := (Below.refl _ _).drew
  have hmv' : ∀ W, Below w4.heap.size w4 W -> Calls Tryz.prog 11 #[ptrV B, .int .i64 x.t] W fun e w' => ∃ v, e = .returned v /\ EnRow w' v L /\ Below W.heap.size W w' := fun W hW => by rw [HL.out]; exact (mmoves_any x.t W (hM4.below hW) hI.sane).mono (fun e w' ⟨v, e1, hR, hb⟩ => ⟨v, e1, hR.1, hb⟩)
  refine wp_region_panD (AppAct (w.heap.size + 1)) (fun ch w' => ch = [{ v := .iface 71 (.agg #[.int .i64 171]), recovered := false }] /\ Below w4.heap.size w4 w') ?hR ?_
  case hR =>
    rintro ch ⟨tm, df⟩ w' ⟨h1, h2⟩ ⟨rfl, h3⟩
    simp only at h1 h2
    subst h1
    go_simp
    exact apply_dies (w.heap.size + 1) _ _ 171 0 h2 (boxed_below hE4 h3) (hM4.below h3) (hG4.trans (Goes.of_below h3)) hE0 (by omega)
  refine wp_region_held_drew (S := fun W => Blk W w.heap.size 32 (enA y)) (by kernel_rfl) hX4 (fun hHeld => ?_)
  refine takeD (i := 0) (d := some 23) (v := ptrV B) (by kernel_rfl) (by kernel_rfl) (by kernel_rfl) (by kernel_rfl) (appAct_put (by decide)) (fun oi h => ?_) hHeld ?_
  · simp only [uA, uS, uZ, Option.some.injEq] at h
    subst h
    refine Or.inl ⟨by rfl, fun w' hSw => ?_⟩
    go_simp
  try simp only [Act.put, tA, tZ, tS]
  refine takeD (i := 1) (d := some 24) (v := .pointer (some ⟨w.heap.size, 3, none⟩)) (by kernel_rfl) (by kernel_rfl) (by kernel_rfl) (by kernel_rfl) (appAct_put (by decide)) (fun oi h => ?_) hHeld ?_
  · simp only [uA, uS, uZ, Option.some.injEq] at h
    subst h
    refine Or.inl ⟨by rfl, fun w' hSw => ?_⟩
    go_simp
  try simp only [Act.put, tA, tZ, tS]
  refine takeD (i := 2) (d := some 25) (v := .int .i64 x.t) (by kernel_rfl) (by kernel_rfl) (by kernel_rfl) (by kernel_rfl) (appAct_put (by decide)) (fun oi h => ?_) hHeld ?_
  · simp only [uA, uS, uZ, Option.some.injEq] at h
    subst h
    refine Or.inl ⟨by rfl, fun w' hSw => ?_⟩
    have hx3 : w'.cell? ⟨w.heap.size, 3, none⟩ = some (.int .i64 x.t) := by rw [<- hyt]; exact Blk.cell hSw rfl
    go_simp
  try simp only [Act.put, tA, tZ, tS]
  refine takeD (i := 4) (d := some 27) (v := enV y) (by kernel_rfl) (by kernel_rfl) (by kernel_rfl) (by kernel_rfl) (appAct_put (by decide)) (fun oi h => ?_) hHeld ?_
  · simp only [uA, uS, uZ, Option.some.injEq] at h
    subst h
    refine Or.inl ⟨by rfl, fun w' hSw => ?_⟩
    exact exec_load_row rfl rfl hSw Tryz.underlying32 rfl szEn
  try simp only [Act.put, tA, tZ, tS]
  refine wpAnyH_ready (rs := [3]) (by kernel_rfl) (by simp) ?_
  refine AllReadyH.cons rfl (fun K hKK => ?_) AllReadyH.nil
  go_simp
  refine (hmv' _ r0).mono ?_
  rintro e w6 ⟨v6, rfl, hR6, hb6⟩
  obtain ⟨va, vc, rfl⟩ := hR6.slice
  have hb6' : Below w4.heap.size w4 w6 := r0.trans (hb6.mono r0.size)
  refine hKK.out _ _ (hX4.later hb6' hX4.lt) (fun hHeld => ?_)
  clear hKK K
  try simp only [Act.put, tA, tZ, tS]
  refine wpAnyH_ready (rs := [5]) (by kernel_rfl) (by simp) ?_
  refine AllReadyH.cons rfl (fun K hKK => ?_) AllReadyH.nil
  go_simp
  refine (hct _ _ hR6).mono ?_
  rintro e w7 ⟨rfl, hb7⟩
  have hb7' : Below w4.heap.size w4 w7 := hb6'.trans (hb7.mono hb6'.size)
  refine hKK.out _ _ (hX4.later hb7' hX4.lt) (fun hHeld => ?_)
  clear hKK K
  try simp only [Act.put, tA, tZ, tS]
  refine wpAnyH_ready (rs := [6]) (by kernel_rfl) (by simp) ?_
  refine AllReadyH.cons rfl (fun K hKK => ?_) AllReadyH.nil
  go_simp
  refine (mneed_bad 171 w7).mono ?_
  rintro e w7 ⟨rfl, rfl⟩
  exact ⟨⟨rfl, rfl⟩, rfl, hb7'⟩
end
open Go.RowKit
open Ent (En EnRow okB)
open Mch (Frm below1 below_nx boxed_below)
section
variable {o : Nat -> Nat} {B : Nat} {M : Mod} {x : En}
set_option linter.unusedSimpArgs false in
theorem apply_ok (w : World) (h : Md w o B M) (hI : Inv M) (he : M.e = 0) (hx : x.ok) (hb : okB x = true) (hk : (decide (1 <= x.k) && decide (x.k <= 11)) = true) (hm : En.at0 x ∈ M.moves x.t) :
    Calls Tryz.prog 14 #[ptrV B, enV x] w (AppPost o B (M.do_ (En.at0 x)) 0 w) := by
  obtain ⟨w2, hw2⟩ : ∃ w2, w2 = (w.alloc (.cells (enA x) 32)).alloc (.cells #[.int .i64 0] 28) := ⟨_, rfl⟩
  have hB2 : Below w.heap.size w w2 := by rw [hw2]; exact below2 w _ _
  have hX2 : Blk w2 w.heap.size 32 (enA x) := by rw [hw2]; exact (blk_new w _ _).alloc _
  have hE2 : Boxed w2 (w.heap.size + 1) 28 (.int .i64 0) := by
    have h1 := Boxed.new (w.alloc (.cells (enA x) 32)) 28 (.int .i64 0)
    rw [World.size_alloc] at h1
    rw [hw2]; exact h1
  have hM2 := h.below hB2
  have hG2 : Goes o o w w2 := Goes.of_below hB2
  have hE0 : o (w.heap.size + 1) = 0 := h.off (by omega)
  have hhl := halted_any w2 hM2
  have hmf : ∀ (fn : Fn) (first cap : Array Value) (w : World), (Instr.makeFunc fn first cap).run Tryz.prog w = .ok (.func fn first cap) w := fun _ _ _ _ => rfl
  have hA0 : o w.heap.size = 0 := h.off (Nat.le_refl _)
  have hne : (M.e != 0) = false := by simpa using he
  rw [hne] at hhl
  have hck := Ent.check_any x hx w2
  rw [show Ent.checkE x = 0 by unfold Ent.checkE; rw [hb]; rfl] at hck
  have hck' : Calls Tryz.prog 38 #[enV x] w2 fun e w' => e = .returned (.int .i64 0) /\ Below w2.heap.size w2 w' := hck
  have hcm := fun W => commitE_any x.k W hx.k
  rw [hk] at hcm
  have hmv := fun (W : World) (hW : Below w2.heap.size w2 W) => mmoves_any x.t W (hM2.below hW) hI.sane
  have hml : (M.moves x.t).length <= 1000 := moves_len hI x.t
  obtain ⟨L, hL⟩ : ∃ L, L = M.moves x.t := ⟨_, rfl⟩
  simp only [<- hL] at hmv
  rw [<- hL] at hml
  have HL := Lib.hid hL
  have hkc : ∀ W, Below w2.heap.size w2 W -> W.cell? ⟨w.heap.size, 1, none⟩ = some (.int .u8 (x.k : Int)) := fun W hW => Blk.cell (hX2.later hW hX2.lt) rfl
  obtain ⟨y, hy⟩ : ∃ y : En, y = En.at0 x := ⟨_, rfl⟩
  have hct := fun (W : World) (v : Value) (hR : EnRow W v L) => contains_any y v L W hR (by omega)
  have hyt : y.t = x.t := by rw [hy]; rfl
  have hyk : y.k = x.k := by rw [hy]; rfl
  have HY := Lib.hid hy
  have x0 : w2.cell? ⟨w.heap.size, 0, none⟩ = some (.int .i64 x.a) := Blk.cell hX2 rfl
  have x1 : w2.cell? ⟨w.heap.size, 1, none⟩ = some (.int .u8 (x.k : Int)) := Blk.cell hX2 rfl
  have x2 : w2.cell? ⟨w.heap.size, 2, none⟩ = some (.int .i64 x.w) := Blk.cell hX2 rfl
  have x3 : w2.cell? ⟨w.heap.size, 3, none⟩ = some (.int .i64 x.t) := Blk.cell hX2 rfl
  have x4 : w2.cell? ⟨w.heap.size, 4, none⟩ = some (.int .i64 x.p) := Blk.cell hX2 rfl
  have x5 : w2.cell? ⟨w.heap.size, 5, none⟩ = some (.int .i64 x.c) := Blk.cell hX2 rfl
  have x6 : w2.cell? ⟨w.heap.size, 6, none⟩ = some (.int .i64 x.b) := Blk.cell hX2 rfl
  have x7 : w2.cell? ⟨w.heap.size, 7, none⟩ = some (.int .i64 x.q) := Blk.cell hX2 rfl
  have x8 : w2.cell? ⟨w.heap.size, 8, none⟩ = some (.int .i64 x.v) := Blk.cell hX2 rfl
  have x9 : w2.cell? ⟨w.heap.size, 9, none⟩ = some (.int .i64 x.u) := Blk.cell hX2 rfl
  have x10 : w2.cell? ⟨w.heap.size, 10, none⟩ = some (.bool x.o) := Blk.cell hX2 rfl
  have x11 : w2.cell? ⟨w.heap.size, 11, none⟩ = some (.int .i64 x.e) := Blk.cell hX2 rfl
  have x12 : w2.cell? ⟨w.heap.size, 12, none⟩ = some (.int .u64 (x.s : Int)) := Blk.cell hX2 rfl
  have hF : decide (y ∈ L) = true := by rw [hy, hL]; simpa using hm
  simp only [hF] at hct
  obtain ⟨hmo, -, ht⟩ := moves_ok hI _ hm
  rw [<- hy] at hmo
  have hdd := fun (W : World) (hW : Md W o B M) => deed_any W hW hI hmo ht
  have hds := fun W => deeds_any B W
  have hk1 : 1 <= y.k /\ y.k <= 11 := hmo.k
  have hen := deed_enters y.k
  have hlk0 : ∀ (W : World) (Mp : Nat) (gp : Nat -> Option Value), DeeMap W Mp gp 11 -> (∀ k, 1 <= k -> k <= 11 -> gp k = some (deeF B k)) -> (Instr.lookup 104 (.map (some Mp)) (.int .u8 (y.k : Int)) false).run Tryz.prog W = .ok (.func (.func (deedK y.k)) #[ptrV B] #[]) W := fun W Mp gp hD hg => hD.look (by omega) (hg y.k hk1.1 hk1.2)
  obtain ⟨KF, hKF⟩ : ∃ KF, KF = deedK y.k := ⟨_, rfl⟩
  simp only [<- hKF] at hdd hen hlk0
  have hlk := hlk0
  rw [<- hy]
  obtain ⟨N, hN⟩ : ∃ N, N = M.do_ y := ⟨_, rfl⟩
  simp only [<- hN] at hdd
  rw [<- hN]
  clear hne he h hB2 hx hb hck hk hm hF hyk hmv hL hy hKF hlk0 hmo ht hk1 hN
  go_enter_defers Tryz.func14, Tryz.ntmps14
  go_wp2_with fail
  rw [<- hw2]
  clear hw2
  refine (mneed_ok 1 w2).mono ?_
  rintro e w2 ⟨rfl, rfl⟩
  go_wp2_with fail
  refine hhl.mono ?_
  rintro e w2 ⟨rfl, rfl⟩
  go_wp2_with fail
  refine (mneed_ok 170 w2).mono ?_
  rintro e w2 ⟨rfl, rfl⟩
  go_wp2_with fail
  refine hck'.mono ?_
  rintro e w3 ⟨rfl, hb3⟩
  have hX3 := hX2.later hb3 hX2.lt
  have y0 : w3.cell? ⟨w.heap.size, 0, none⟩ = some (.int .i64 x.a) := Blk.cell hX3 rfl
  have y1 := hkc w3 hb3
  have yf := hX3.frozen
  clear hkc hck'
  go_wp2_with fail
  refine (hcm w3).mono ?_
  rintro e w3 ⟨rfl, rfl⟩
  go_wp2_with fail
  refine (mneed_ok 2 w3).mono ?_
  rintro e w3 ⟨rfl, rfl⟩
  go_upto_region 6 with fail
  have hX4 : Blk (w3.setCell ⟨w.heap.size, 0, none⟩ (.int .i64 0)) w.heap.size 32 (enA y) := by
    have := hX3.set 0 (.int .i64 0)
    rw [HY.out]; simpa [enA, En.at0] using this
  have hF4 : Frm (fun j => j = w.heap.size) w3 (w3.setCell ⟨w.heap.size, 0, none⟩ (.int .i64 0)) := Mch.Frm.set (F := fun j => j = w.heap.size) (p := ⟨w.heap.size, 0, none⟩) w3 _ rfl
  have hM4 := md_off (hM2.below hb3) hF4 hA0
  have hE4 : Boxed (w3.setCell ⟨w.heap.size, 0, none⟩ (.int .i64 0)) (w.heap.size + 1) 28 (.int .i64 0) := Mch.boxed_frm (boxed_below hE2 hb3) hF4 (by omega)
  have hG4 : Goes o o w (w3.setCell ⟨w.heap.size, 0, none⟩ (.int .i64 0)) := by
    have h3 := hG2.trans (Goes.of_below hb3)
    exact ⟨fun _ _ => rfl, Mch.Frm.trans_new h3.frm hF4 (fun i hi => .inr (by omega))⟩
  generalize w3.setCell ⟨w.heap.size, 0, none⟩ (.int .i64 0) = w4 at hX4 hM4 hE4 hG4 ⊢
  clear hX3 hF4 y0 y1 yf hb3 hX2 hM2 hE2 hG2 hcm x0 x1 x2 x3 x4 x5 x6 x7 x8 x9 x10 x11 x12
  have r0 : Below w4.heap.size w4 w4.drew := (Below.refl _ _).drew
  have hmv' : ∀ W, Below w4.heap.size w4 W -> Calls Tryz.prog 11 #[ptrV B, .int .i64 x.t] W fun e w' => ∃ v, e = .returned v /\ EnRow w' v L /\ Below W.heap.size W w' := fun W hW => by rw [HL.out]; exact (mmoves_any x.t W (hM4.below hW) hI.sane).mono (fun e w' ⟨v, e1, hR, hb⟩ => ⟨v, e1, hR.1, hb⟩)
  refine Mch.wp_onlyN ?_
  refine wp_region_held_drew (S := fun W => Blk W w.heap.size 32 (enA y)) (by kernel_rfl) hX4 (fun hHeld => ?_)
  refine takeD (i := 0) (d := some 23) (v := ptrV B) (by kernel_rfl) (by kernel_rfl) (by kernel_rfl) (by kernel_rfl) (fun _ _ _ h => h) (fun oi h => ?_) hHeld ?_
  · simp only [uA, uS, uZ, Option.some.injEq] at h
    subst h
    refine Or.inl ⟨by rfl, fun w' hSw => ?_⟩
    go_simp
  try simp only [Act.put, tA, tZ, tS]
  refine takeD (i := 1) (d := some 24) (v := .pointer (some ⟨w.heap.size, 3, none⟩)) (by kernel_rfl) (by kernel_rfl) (by kernel_rfl) (by kernel_rfl) (fun _ _ _ h => h) (fun oi h => ?_) hHeld ?_
  · simp only [uA, uS, uZ, Option.some.injEq] at h
    subst h
    refine Or.inl ⟨by rfl, fun w' hSw => ?_⟩
    go_simp
  try simp only [Act.put, tA, tZ, tS]
  refine takeD (i := 2) (d := some 25) (v := .int .i64 x.t) (by kernel_rfl) (by kernel_rfl) (by kernel_rfl) (by kernel_rfl) (fun _ _ _ h => h) (fun oi h => ?_) hHeld ?_
  · simp only [uA, uS, uZ, Option.some.injEq] at h
    subst h
    refine Or.inl ⟨by rfl, fun w' hSw => ?_⟩
    have hx3 : w'.cell? ⟨w.heap.size, 3, none⟩ = some (.int .i64 x.t) := by rw [<- hyt]; exact Blk.cell hSw rfl
    go_simp
  try simp only [Act.put, tA, tZ, tS]
  refine takeD (i := 4) (d := some 27) (v := enV y) (by kernel_rfl) (by kernel_rfl) (by kernel_rfl) (by kernel_rfl) (fun _ _ _ h => h) (fun oi h => ?_) hHeld ?_
  · simp only [uA, uS, uZ, Option.some.injEq] at h
    subst h
    refine Or.inl ⟨by rfl, fun w' hSw => ?_⟩
    exact exec_load_row rfl rfl hSw Tryz.underlying32 rfl szEn
  try simp only [Act.put, tA, tZ, tS]
  refine wpAnyH_ready (rs := [3]) (by kernel_rfl) (by simp) ?_
  refine AllReadyH.cons rfl (fun K hKK => ?_) AllReadyH.nil
  go_simp
  refine (hmv' _ r0).mono ?_
  rintro e w6 ⟨v6, rfl, hR6, hb6⟩
  obtain ⟨va, vc, rfl⟩ := hR6.slice
  have hb6' : Below w4.heap.size w4 w6 := r0.trans (hb6.mono r0.size)
  refine hKK.out _ _ (hX4.later hb6' hX4.lt) (fun hHeld => ?_)
  clear hKK K
  try simp only [Act.put, tA, tZ, tS]
  refine wpAnyH_ready (rs := [5]) (by kernel_rfl) (by simp) ?_
  refine AllReadyH.cons rfl (fun K hKK => ?_) AllReadyH.nil
  go_simp
  refine (hct _ _ hR6).mono ?_
  rintro e w7 ⟨rfl, hb7⟩
  have hb7' : Below w4.heap.size w4 w7 := hb6'.trans (hb7.mono hb6'.size)
  refine hKK.out _ _ (hX4.later hb7' hX4.lt) (fun hHeld => ?_)
  clear hKK K
  try simp only [Act.put, tA, tZ, tS]
  refine wpAnyH_ready (rs := [6]) (by kernel_rfl) (by simp) ?_
  refine AllReadyH.cons rfl (fun K hKK => ?_) AllReadyH.nil
  go_simp
  refine (mneed_ok 171 w7).mono ?_
  rintro e w7 ⟨rfl, rfl⟩
  have hX7 := hX4.later hb7' hX4.lt
  refine hKK.out _ _ hX7 (fun hHeld => ?_)
  clear hKK K
  try simp only [Act.put, tA, tZ, tS]
  refine wpAnyH_done (by kernel_rfl) ?_ _
  simp only [Mch.onlyN]
  go_wp2_with fail
  refine Mch.wp_onlyN ?_
  refine wp_region_held_drew (S := fun W => Blk W w.heap.size 32 (enA y)) (by kernel_rfl) hX7 (fun hHeld => ?_)
  refine takeD (i := 0) (d := some 30) (v := ptrV B) (by kernel_rfl) (by kernel_rfl) (by kernel_rfl) (by kernel_rfl) (fun _ _ _ h => h) (fun oi h => ?_) hHeld ?_
  · simp only [uA, uS, uZ, Option.some.injEq] at h
    subst h
    refine Or.inl ⟨by rfl, fun w' hSw => ?_⟩
    go_simp
  try simp only [Act.put, tA, tZ, tS]
  refine takeD (i := 2) (d := some 32) (v := .pointer (some ⟨w.heap.size, 1, none⟩)) (by kernel_rfl) (by kernel_rfl) (by kernel_rfl) (by kernel_rfl) (fun _ _ _ h => h) (fun oi h => ?_) hHeld ?_
  · simp only [uA, uS, uZ, Option.some.injEq] at h
    subst h
    refine Or.inl ⟨by rfl, fun w' hSw => ?_⟩
    go_simp
  try simp only [Act.put, tA, tZ, tS]
  refine takeD (i := 3) (d := some 33) (v := .int .u8 (y.k : Int)) (by kernel_rfl) (by kernel_rfl) (by kernel_rfl) (by kernel_rfl) (fun _ _ _ h => h) (fun oi h => ?_) hHeld ?_
  · simp only [uA, uS, uZ, Option.some.injEq] at h
    subst h
    refine Or.inl ⟨by rfl, fun w' hSw => ?_⟩
    have hx3 : w'.cell? ⟨w.heap.size, 1, none⟩ = some (.int .u8 (y.k : Int)) := Blk.cell hSw rfl
    go_simp
  try simp only [Act.put, tA, tZ, tS]
  refine takeD (i := 5) (d := some 35) (v := enV y) (by kernel_rfl) (by kernel_rfl) (by kernel_rfl) (by kernel_rfl) (fun _ _ _ h => h) (fun oi h => ?_) hHeld ?_
  · simp only [uA, uS, uZ, Option.some.injEq] at h
    subst h
    refine Or.inl ⟨by rfl, fun w' hSw => ?_⟩
    exact exec_load_row rfl rfl hSw Tryz.underlying32 rfl szEn
  try simp only [Act.put, tA, tZ, tS]
  refine wpAnyH_ready (rs := [1]) (by kernel_rfl) (by simp) ?_
  refine AllReadyH.cons rfl (fun K hKK => ?_) AllReadyH.nil
  go_simp
  refine (hds _).mono ?_
  rintro e w8 ⟨Mp, gp, rfl, hD8, hg8, hb8⟩
  have hl8 := hlk w8 Mp gp hD8 hg8
  have hb8' : Below w7.heap.size w7 w8 := (Below.refl _ w7).drew.trans (hb8.mono (Nat.le_refl _))
  have hX8 := hX7.later hb8' hX7.lt
  refine hKK.out _ _ hX8 (fun hHeld => ?_)
  clear hKK K
  try simp only [Act.put, tA, tZ, tS]
  refine wpAnyH_ready (rs := [4]) (by kernel_rfl) (by simp) ?_
  refine AllReadyH.cons rfl (fun K hKK => ?_) AllReadyH.nil
  go_simp
  refine hKK.out _ _ hX8 (fun hHeld => ?_)
  clear hKK K
  try simp only [Act.put, tA, tZ, tS]
  refine wpAnyH_ready (rs := [6]) (by kernel_rfl) (by simp) ?_
  refine AllReadyH.cons rfl (fun K hKK => ?_) AllReadyH.nil
  go_simp
  refine (hdd w8 ((hM4.below hb7').below hb8')).mono ?_
  rintro e w9 ⟨rfl, o9, h9, g9⟩
  have hX9 := blk_goes hX8 hA0 g9
  refine hKK.out _ _ hX9 (fun hHeld => ?_)
  clear hKK K
  try simp only [Act.put, tA, tZ, tS]
  refine wpAnyH_done (by kernel_rfl) ?_ _
  simp only [Mch.onlyN]
  have hE9 : Boxed w9 (w.heap.size + 1) 28 (.int .i64 0) := by
    have h8 := boxed_below (boxed_below hE4 hb7') hb8'
    exact (g9.frm.block _ h8.lt (fun e => e hE0)).trans h8
  have hG9 := ((hG4.trans (Goes.of_below hb7')).trans (Goes.of_below hb8')).trans g9
  have e9 := hE9.cell
  have f9 := hE9.frozen
  have hE10 := hE9.set (.int .i64 0)
  have ho9 : o9 (w.heap.size + 1) = 0 := (g9.old _ (boxed_below (boxed_below hE4 hb7') hb8').lt).trans hE0
  have hF10 : Frm (fun j => j = w.heap.size + 1) w9 (w9.setCell ⟨w.heap.size + 1, 0, none⟩ (.int .i64 0)) := Mch.Frm.set (F := fun j => j = w.heap.size + 1) (p := ⟨w.heap.size + 1, 0, none⟩) w9 _ rfl
  have hN10 := md_off h9 hF10 ho9
  have hG10 : Goes o o9 w (w9.setCell ⟨w.heap.size + 1, 0, none⟩ (.int .i64 0)) := ⟨hG9.old, Mch.Frm.trans_new hG9.frm hF10 (fun i hi => .inr (by omega))⟩
  go_wp2_with fail
  exact apply_ends (w.heap.size + 1) _ _ 0 rfl hE10 hN10 hG10
end
open Go.RowKit
open Ent (En EnRow okB)
theorem apply_any {o : Nat -> Nat} {B : Nat} {M : Mod} (x : En) (w : World) (h : Md w o B M) (hI : Inv M) (hx : x.ok) :
    Calls Tryz.prog 14 #[ptrV B, enV x] w (AppPost o B (M.apply x) (M.applyE x) w) := by
  have hst : ∀ k : Int, M.applyE x = k -> k ≠ 0 -> M.apply x = M := fun k e hk => by unfold Mod.apply; rw [if_neg (by rw [e]; exact hk)]
  by_cases he : M.e = 0
  · cases hb : okB x with
    | false =>
      have hE : M.applyE x = 2 := by unfold Mod.applyE; rw [if_neg (by simpa using he), hb]; rfl
      rw [hst 2 hE (by decide), hE]
      exact apply_bad w h he hx hb
    | true =>
      cases hk : (decide (1 <= x.k) && decide (x.k <= 11)) with
      | false =>
        have hE : M.applyE x = 2 := by unfold Mod.applyE; rw [if_neg (by simpa using he), hb, hk]; rfl
        rw [hst 2 hE (by decide), hE]
        exact apply_mark w h he hx hb hk
      | true =>
        by_cases hm : En.at0 x ∈ M.moves x.t
        · have hE : M.applyE x = 0 := by unfold Mod.applyE; rw [if_neg (by simpa using he), hb, hk]; simp [hm]
          have hA : M.apply x = M.do_ (En.at0 x) := by unfold Mod.apply; rw [if_pos hE]
          rw [hA, hE]
          exact apply_ok w h hI he hx hb hk hm
        · have hE : M.applyE x = 171 := by unfold Mod.applyE; rw [if_neg (by simpa using he), hb, hk]; simp [hm]
          rw [hst 171 hE (by decide), hE]
          exact apply_not w h hI he hx hb hk hm
  · have hE : M.applyE x = 170 := by unfold Mod.applyE; rw [if_pos he]
    rw [hst 170 hE (by decide), hE]
    exact apply_halted w h he
open Go.RowKit
open Ent (En EnRow okB en_one en_len)
open Mch (below1 below_nx owns_slice')
def allF (M : Mod) (n : Nat) : List En := (List.range n).flatMap fun (i : Nat) => M.moves (i : Int)
def allM (M : Mod) : List En := allF M M.T.length
theorem allF_snoc (M : Mod) (n : Nat) : allF M (n + 1) = allF M n ++ M.moves (n : Int) := by simp [allF, List.range_succ]
theorem allF_len {M : Mod} (h : Inv M) (n : Nat) : (allF M n).length <= n * 1000 := by
  induction n with
  | zero => simp [allF]
  | succ n ih => rw [allF_snoc, List.length_append]; have := moves_len h (n : Int); omega
theorem allM_mem {M : Mod} {x : En} (h : x ∈ allM M) : ∃ t, x ∈ M.moves t := by
  unfold allM allF at h
  rw [List.mem_flatMap] at h
  obtain ⟨i, _, h⟩ := h
  exact ⟨_, h⟩
theorem flatE_app (a b : List En) : flatE (a ++ b) = flatE a ++ flatE b := by simp [flatE]
theorem flatE_len (a : List En) : (flatE a).length = a.length * 13 := by
  induction a with
  | nil => rfl
  | cons x t ih => rw [flatE, List.flatMap_cons, List.length_append, <- flatE, ih, en_len, List.length_cons]; omega
theorem en_news {W : World} {a : Option Addr} {c : Nat} {l : List En} (h : EnRow W (.slice a l.length c) l) (hl : 0 < l.length) :
    ∃ b off, a = some ⟨b, off, none⟩ /\ ∀ j u, (flatE l)[j]? = some u -> W.cell? ((⟨b, off, none⟩ : Addr).add j) = some u := by
  obtain ⟨a', c', h1, h2⟩ := h
  simp only [Value.slice.injEq] at h1
  rcases h2 with h2 | ⟨b, off, h3, _, h5⟩
  · omega
  · refine ⟨b, off, h1.1.trans h3, fun j u hj => ?_⟩
    have hadd : (⟨b, off, none⟩ : Addr).add j = ⟨b, off + j, none⟩ := by unfold Addr.add; split <;> simp_all
    have hj13 : j % 13 < 13 := Nat.mod_lt _ (by omega)
    have hf := Ent.flat_get En.cellsL 13 en_len l (j / 13) (j % 13) hj13
    have hjj : j / 13 * 13 + j % 13 = j := by omega
    rw [hjj] at hf
    unfold flatE at hj
    rw [hf] at hj
    cases hx : l[j / 13]? with
    | none => rw [hx] at hj; simp at hj
    | some x =>
      rw [hx, Option.bind_some] at hj
      rw [hadd, <- h5 (j / 13) x hx (j % 13) u hj]
      congr 2
      omega
theorem run_append_nothing {P : Program} (w : World) (t ty e : TypeId) (i : TypeInfo) (ht : P.underlying t = some (.slice e)) (hi : P.info? e = some i) (b a : Option Addr) (n cap c : Nat) (h : n <= cap) :
    (Builtin.append_ #[t, t] ty #[.slice b n cap, .slice a 0 c]).run P w = .ok (.slice b n cap) w := by
  cases b <;> cases a <;> simp [Builtin.append_, run_underlying ht, sizeOf, typeInfo, hi, Builtin.lenOf, Builtin.firstCells, loadCells, loadCellsFrom, h, storeCells]
theorem wpList_append_nothing {P : Program} {w : World} {ops : Array Oper} {rest : List Oper} {o : Oper} {a : Act} {Q : Exit -> Act -> World -> Prop} (hgd : o.guard = none) (s x : Operand) (t : TypeId)
    (ho : o.op = .call { callee := .builtin .append, args := #[s, x], argTypes := #[t, t] }) (e : TypeId) (i : TypeInfo) (ht : P.underlying t = some (.slice e)) (hi : P.info? e = some i)
    (b : Option Addr) (n cap : Nat) (hs : a.eval s = .slice b n cap) (ad : Option Addr) (c : Nat) (hx : a.eval x = .slice ad 0 c) (hn : n <= cap)
    (h : wpList P ops Q rest (a.put o.dst (.slice b n cap)) w) : wpList P ops Q (o :: rest) a w := by
  refine wpList_plain hgd fun K hK => ?_
  have hr := run_append_nothing (P := P) w t o.type e i ht hi b ad n cap c hn
  unfold Oper.wp execOp
  simp only [ho, resolve, invoke, builtin, Sem.run_bind, Sem.run_pure, Result.andThen_ok, List.map_toArray, List.map_cons, List.map_nil, hs, hx, hr]
  exact hK _ _ h
theorem owns_cap {W : World} {base : Nat} {e : TypeId} {size n cap : Nat} {a : Option Addr} {m : Nat} {xs : List Value} (h : W.ownsRow base e size (.slice a m cap) n xs) : m = n /\ n <= cap := by
  rcases h.2 with ⟨h1, h0⟩ | ⟨g, cap', cur, hv, _, _, hn, _⟩
  · simp only [Value.slice.injEq] at h1; omega
  · simp only [Value.slice.injEq] at hv; omega
theorem alls_any {o : Nat -> Nat} {B : Nat} {M : Mod} (w : World) (h : Md w o B M) (hI : Inv M) :
    Calls Tryz.prog 42 #[ptrV B] w fun e w' => ∃ a c, e = .returned (.slice a (allM M).length c) /\ EnNew w.heap.size w' (.slice a (allM M).length c) (allM M) /\ Below w.heap.size w w' := by
  obtain ⟨i0, hi, hz0, hz1, hz2⟩ := info_parts infoEnt
  have hta := fun (W : World) (hW : Below w.heap.size w W) => tasks_any W (h.below hW) (by have := hI.tl; have := hI.mo; omega)
  have hmv := fun (t : Int) (W : World) (hW : Below w.heap.size w W) => mmoves_any t W (h.below hW) hI.sane
  have hln := fun k => allF_len hI k
  have hml := fun t => moves_len hI t
  have hTn : M.T.length <= 32 := Nat.le_trans hI.tl hI.mo
  obtain ⟨n, hn⟩ : ∃ n, n = M.T.length := ⟨_, rfl⟩
  have hD : Hid (allM M = allF M n) := Lib.hid (by rw [hn]; rfl)
  rw [<- hn] at hTn
  simp only [<- hn] at hta
  clear hn h hI
  go_enter Tryz.func42, Tryz.ntmps42
  go_wp2_with fail
  go_loopw [3, 4] (fun lv iv wr => ∃ k : Nat, k <= n /\ iv = .int .i64 (k : Int) /\ Below w.heap.size w wr /\ wr.ownsRow w.heap.size 32 13 lv (allF M k).length (flatE (allF M k))) (fun _ iv _ => n - (intOf iv).toNat)
  case atStart => exact ⟨0, by omega, rfl, Below.refl _ _, World.ownsRow_nil _ _ _ _⟩
  case round =>
    obtain ⟨k, hk, rfl, hB, hR⟩ := hrel
    have ht := hta wr hB
    by_cases hlt : k < n
    · have hlt' : (k : Int) < (n : Int) := by omega
      have h32 : (k : Int) < 32 := by omega
      have d1 : decide ((k : Int) < (n : Int)) = true := by simpa using hlt'
      have d2 : decide ((k : Int) < 32) = true := by simpa using h32
      have hwk : IntKind.i64.wrap ((k : Int) + 1) = (k : Int) + 1 := by rw [IntKind.wrap_i64]; omega
      have hm := hmv (k : Int)
      have HS : Hid (allF M (k + 1) = allF M k ++ M.moves (k : Int)) := Lib.hid (allF_snoc M k)
      have hl1 := hln k
      have hl2 := hml (k : Int)
      obtain ⟨L, hL⟩ : ∃ L, L = M.moves (k : Int) := ⟨_, rfl⟩
      rw [<- hL] at HS hl2
      simp only [<- hL] at hm
      obtain ⟨D, hDD⟩ : ∃ D, D = allF M k := ⟨_, rfl⟩
      rw [<- hDD] at HS hl1 hR
      clear hL hDD hta hmv hln hml hlt
      go_wp2_with fail
      refine ht.mono ?_
      clear ht
      rintro e w1 ⟨rfl, hb1⟩
      have hB1 := below_nx hB hb1 (Nat.le_refl _)
      have hR1 := owns_fresh hR hb1
      have hm1 := hm w1 hB1
      clear hR hb1 hm
      go_wp2_with fail
      refine hm1.mono ?_
      clear hm1
      rintro e w2 ⟨v, rfl, hE, hb2⟩
      have hB2 := below_nx hB1 hb2 (Nat.le_refl _)
      have hR2 := owns_fresh hR1 hb2
      obtain ⟨sa, sc, rfl⟩ := hE.slice
      obtain ⟨ra, rc, rfl⟩ := owns_slice' hR2
      have hcap := (owns_cap hR2).2
      clear hR1 hb2
      have hone := en_one L
      by_cases hz : L = []
      · subst hz
        have HS2 : Hid (allF M (k + 1) = D) := Lib.hid (by rw [HS.out, List.append_nil])
        rw [<- HS2.out] at hR2
        go_wp2_with (at_builtin; refine wpList_append_nothing rfl _ _ 42 rfl 32 i0 Tryz.underlying42 hi ra D.length rc rfl sa sc rfl hcap ?_)
        go_wp2_with fail
        go_roundw
        case rel => exact ⟨k + 1, by omega, by go_num, hB2, by rw [HS2.out] at hR2 ⊢; exact hR2⟩
        case measure => simp [intOf]; omega
      · obtain ⟨b, off, rfl, hnews⟩ := en_news hE.1 (List.length_pos_iff.mpr hz)
        have hfl := flatE_len L
        go_wp2_with (at_builtin; refine wpList_append_own_at _ rfl _ _ 42 rfl w.heap.size 32 i0 (.agg #[.int .i64 0, .int .u8 0, .int .i64 0, .int .i64 0, .int .i64 0, .int .i64 0, .int .i64 0, .int .i64 0, .int .i64 0, .int .i64 0, .bool false, .int .i64 0, .int .u64 0]) 13 104 Tryz.underlying42 hi hz0 hz1 hz2 rfl (by decide) _ D.length (flatE D) rfl hR2 ⟨b, off, none⟩ L.length sc (flatE L) rfl hfl hnews hone ?c3 ?c4 ?c5 ?_)
        case c3 => unfold maxLen; omega
        case c4 => omega
        case c5 => exact hB2.size
        intro v8 w8 hown hgrow _ _
        have hb8 := hB2.grown hgrow hB2.size (fun g e => by have := Mch.owns_ge hR2 g e; omega)
        have hown' : w8.ownsRow w.heap.size 32 13 v8 (allF M (k + 1)).length (flatE (allF M (k + 1))) := by
          rw [HS.out, flatE_app, List.length_append]
          exact hown
        clear hown hgrow hnews hR2 hone
        go_wp2_with fail
        go_roundw
        case rel => exact ⟨k + 1, by omega, by go_num, hb8, hown'⟩
        case measure => simp [intOf]; omega
    · obtain rfl : k = n := by omega
      have d1 : decide ((k : Int) < (k : Int)) = false := by simp
      have hk0 : ¬ (k : Int) < (k : Int) := by omega
      clear hta hmv hln hml hlt
      go_wp2_with fail
      refine ht.mono ?_
      clear ht
      rintro e w1 ⟨rfl, hb1⟩
      have hB1 := below_nx hB hb1 (Nat.le_refl _)
      have hR1 := owns_fresh hR hb1
      obtain ⟨ra, rc, rfl⟩ := owns_slice' hR1
      have hE := EnNew.of_owns hR1
      clear hR hR1 hb1
      go_wp2_with fail
      go_ret
      rw [hD.out]
      exact ⟨_, _, rfl, hE, hB1⟩
end Go.Proofs.YtdijhgaaeifbfaaGreat.Mdl
