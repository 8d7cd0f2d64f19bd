/-
  ModelMoves: its walks, part 45: DLawM.
-/
import Derived.Test.YtdijhgaaeifbfaaGreatQ00
import Derived.Test.YtdijhgaaeifbfaaGreatQ42
import Derived.Test.YtdijhgaaeifbfaaGreatQ44
set_option maxRecDepth 100000
set_option maxHeartbeats 12800000
namespace Go.Proofs.YtdijhgaaeifbfaaGreat.Mdl
open Go.RowKit
open Ent (En EnRow okB en_one en_len)
open Mch (below1 below_nx owns_slice')
theorem md32 (m : Nat) : Int.tmod (m : Int) 32 = ((m % 32 : Nat) : Int) := rem_nat m 32
theorem apply_task {M : Mod} {i : Int} {x : En} (hI : Inv M) (hx : x ∈ M.moves i) (j : Nat) (hl : j < M.T.length) (hj : (j : Int) ≠ i) (hp : (j : Int) ≠ x.p) : (M.apply x).task (j : Int) = M.task (j : Int) := by
  obtain ⟨hm, _, h0, _⟩ := moves_ok hI x hx
  have ha : M.applyE x = 0 := (applyE_zero hI).2 ⟨by rw [at0_move hm, hm.tt]; exact hx, by rw [hm.aa]; exact Int.le_refl _⟩
  have hA : M.apply x = M.do_ x := by unfold Mod.apply; rw [if_pos ha, at0_move hm]
  have := do_T hm h0 j hl hj hp
  unfold Mod.task
  rw [hA]
  simp only [Int.toNat_natCast, this]
theorem apply_move {M : Mod} {i : Int} {x : En} (hI : Inv M) (hx : x ∈ M.moves i) : M.applyE x = 0 := by
  obtain ⟨hm, _, h0, _⟩ := moves_ok hI x hx
  exact (applyE_zero hI).2 ⟨by rw [at0_move hm, hm.tt]; exact hx, by rw [hm.aa]; exact Int.le_refl _⟩
theorem below_set {n Q : Nat} {w W : World} (h : Below n w W) (hQ : n <= Q) (k : Nat) (v : Value) : Below n w (W.setCell ⟨Q, k, none⟩ v) :=
  ⟨h.os, h.tape, h.output, by simpa [World.setCell] using h.size, fun j hj => (Below.heap_setCell W ⟨Q, k, none⟩ v j (fun e => by have : j = Q := e; omega)).trans (h.block j hj)⟩
def isM (l : List En) (x : En) (c : Nat) : Bool := (l.take c).any (fun y => Ent.En.eq y (En.at0 x)) && decide (0 <= x.a)
theorem isM_snoc (l : List En) (x : En) {c : Nat} {y : En} (hy : l[c]? = some y) : isM l x (c + 1) = (isM l x c || (Ent.En.eq y (En.at0 x) && decide (0 <= x.a))) := by
  unfold isM
  rw [List.take_add_one, hy, Option.toList_some, List.any_append]
  simp only [List.any_cons, List.any_nil, Bool.or_false]
  cases (l.take c).any (fun y => Ent.En.eq y (En.at0 x)) <;> cases Ent.En.eq y (En.at0 x) <;> cases decide (0 <= x.a) <;> rfl
theorem isM_all {M : Mod} (hI : Inv M) (x : En) : (M.applyE x == 0) = isM (M.moves x.t) x (M.moves x.t).length := by
  have h := applyE_zero (x := x) hI
  rw [Bool.eq_iff_iff, beq_iff_eq, h]
  unfold isM
  rw [List.take_length, Bool.and_eq_true, List.any_eq_true, decide_eq_true_iff]
  constructor
  · rintro ⟨h1, h2⟩
    exact ⟨⟨_, h1, Ent.En.eq_iff.2 rfl⟩, h2⟩
  · rintro ⟨⟨y, h1, h3⟩, h2⟩
    rw [Ent.En.eq_iff.1 h3] at h1
    exact ⟨h1, h2⟩
theorem mmlaw_any {v1 v2 v3 sv : Value} {p : Prg} (most : Nat) (l : List Stp) (x : En) (w : World) (h : PrgAt 0 w.heap.size w v1 v2 v3 p) (hmo : most < 256) (hs : StRow w sv l) (hx : x.ok) :
    Calls Tryz.prog 3 #[.agg #[v1, v2, v3], .int .u8 (most : Int), sv, enV x] w fun e w' => e = .returned (.bool true) /\ Below w.heap.size w w' := by
  obtain ⟨sa, sc, rfl⟩ := hs.slice
  obtain ⟨w1, hw1⟩ : ∃ w1, w1 = (w.alloc (.cells #[v1, v2, v3] 26)).alloc (.cells (enA x) 32) := ⟨_, rfl⟩
  have hB1 : Below w.heap.size w w1 := by rw [hw1]; exact below2 w _ _
  have hP1 : Blk w1 w.heap.size 26 #[v1, v2, v3] := by rw [hw1]; exact (blk_new w _ _).alloc _
  have hX1 : Blk w1 (w.heap.size + 1) 32 (enA x) := by
    have := blk_new (w.alloc (.cells #[v1, v2, v3] 26)) 32 (enA x)
    rw [World.size_alloc] at this
    rw [hw1]; exact this
  have hhv : Calls Tryz.prog 5 #[.agg #[v1, v2, v3], .int .i64 (l.length : Int)] w1 (HeavyPost w1 p l.length) := heavy_any _ w1 (h.later hB1)
  have z0 : w1.cell? ⟨w.heap.size, 0, none⟩ = some v1 := hP1.cell rfl
  have z1 : w1.cell? ⟨w.heap.size, 1, none⟩ = some v2 := hP1.cell rfl
  have z2 : w1.cell? ⟨w.heap.size, 2, none⟩ = some v3 := hP1.cell rfl
  have hz : (Tryz.prog.info? 26).map (·.size) = some 3 := by kernel_rfl
  go_enter Tryz.func3, Tryz.ntmps3
  go_upto_region 1 with fail
  rw [<- hw1]
  clear hw1
  go_wp2_with fail
  refine hhv.mono ?_
  clear hhv z0 z1 z2
  rintro e w2 ⟨b, rfl, hbf, hb2⟩
  have hB2 := below_nx hB1 hb2 (Nat.le_refl _)
  have hP2 := hP1.later hb2 hP1.lt
  have hX2 := hX1.later hb2 hX1.lt
  clear hP1 hX1 hB1 hb2
  cases b with
  | true =>
    clear hbf hP2 hX2 h hs hx hmo
    go_wp2_with fail
    refine (alive_any _).mono ?_
    rintro e w3 ⟨rfl, hb3⟩
    have hB3 := below_nx hB2 hb3 (Nat.le_refl _)
    go_wp2_with fail
    go_ret
    exact ⟨rfl, hB3⟩
  | false =>
    obtain ⟨hn200, hT⟩ := hbf rfl
    have hl200 : l.length <= 200 := by omega
    have z0 : w2.cell? ⟨w.heap.size, 0, none⟩ = some v1 := hP2.cell rfl
    have z1 : w2.cell? ⟨w.heap.size, 1, none⟩ = some v2 := hP2.cell rfl
    have z2 : w2.cell? ⟨w.heap.size, 2, none⟩ = some v3 := hP2.cell rfl
    have hp2 := h.later hB2
    have hrem := md32 most
    obtain ⟨q, hq⟩ : ∃ q, q = most % 32 := ⟨_, rfl⟩
    have hq32 : q < 32 := by omega
    rw [<- hq] at hrem
    have hw8 : IntKind.i64.wrap (most : Int) = (most : Int) := by rw [IntKind.wrap_i64]; omega
    have hw9 : IntKind.i64.wrap (1 + (q : Int)) = 1 + (q : Int) := by rw [IntKind.wrap_i64]; omega
    by_cases hck : checkW p = none
    case neg =>
      have hbad := new_bad (1 + (q : Int)) w2 hp2 hT.small hck
      clear hbf hT hn200 hl200 hp2 hP2 hX2 h hs hx hmo hck hq hq32
      go_wp2_with fail
      refine hbad.mono ?_
      clear hbad z0 z1 z2
      rintro e w3 ⟨rfl, hb3⟩
      have hB3 := below_nx hB2 hb3 (Nat.le_refl _)
      clear hb3 hB2
      go_wp2_with fail
      refine (alive_any _).mono ?_
      rintro e w4 ⟨rfl, hb4⟩
      have hB4 := below_nx hB3 hb4 (Nat.le_refl _)
      go_wp2_with fail
      go_ret
      exact ⟨rfl, hB4⟩
    case pos =>
      have hnew : Calls Tryz.prog 7 #[.agg #[v1, v2, v3], .int .i64 (1 + (q : Int))] w2 (NewPost w2 p (1 + q)) := by
        rw [show (1 + (q : Int)) = ((1 + q : Nat) : Int) by omega]
        exact new_ok (1 + q) w2 hp2 hT.small hck (by omega) (by omega)
      have hi0 : Inv (newM p (1 + q)) := inv_new hck hT.small hp2.fit (by omega) (by omega)
      clear hbf hT hn200 hp2 hP2 hmo hck hq hq32
      go_wp2_with fail
      refine hnew.mono ?_
      clear hnew z0 z1 z2 hrem hw8 hw9
      rintro e w3 ⟨A, rfl, ⟨o0, hM0, hnw⟩, hb3⟩
      have hR3 : Runs w2 o0 A (newM p (1 + q)) w3 := ⟨hM0, hi0, hb3, hnw⟩
      have hrun := run_any hR3 (hs.below hB2) (by omega)
      clear hM0 hi0 hnw hb3 h hs hR3
      go_wp2_with fail
      refine hrun.mono ?_
      clear hrun
      rintro e w4 ⟨rfl, o1, hR4⟩
      have hX4 := hX2.later hR4.bel hX2.lt
      have hB4 := below_nx hB2 hR4.bel (Nat.le_refl _)
      have hM4 := hR4.md
      have hI := hR4.inv
      obtain ⟨M, hMM⟩ : ∃ M, M = runM (newM p (1 + q)) l := ⟨_, rfl⟩
      rw [<- hMM] at hM4 hI
      clear hR4 hX2 hB2 hMM hl200
      have hTn : M.T.length <= 32 := Nat.le_trans hI.tl hI.mo
      have hft := mfault_any w4 hM4
      obtain ⟨me, hme⟩ : ∃ me, me = M.e := ⟨_, rfl⟩
      rw [<- hme] at hft
      have HME := Lib.hid hme
      clear hme
      go_wp2_with fail
      refine hft.mono ?_
      clear hft
      rintro e w5 ⟨rfl, hb5⟩
      have hM5 := hM4.below hb5
      have hX5 := hX4.later hb5 hX4.lt
      have hB5 := below_nx hB4 hb5 (Nat.le_refl _)
      obtain ⟨n, hn⟩ : ∃ n, n = M.T.length := ⟨_, rfl⟩
      rw [<- hn] at hTn
      have HN := Lib.hid hn
      have hta := fun (W : World) (hW : Below w5.heap.size w5 W) => tasks_any W (hM5.below hW) (by rw [<- hn]; omega)
      simp only [<- hn] at hta
      have HI := Lib.hid hI
      clear hM4 hX4 hB4 hb5 hn
      go_wp2_with fail
      go_loopw [13] (fun iv wr => ∃ k : Nat, k <= n /\ iv = .int .i64 (k : Int) /\ Below w5.heap.size w5 wr) (fun iv _ => n - (intOf iv).toNat)
      case atStart => exact ⟨0, Nat.zero_le _, rfl, Below.refl _ _⟩
      case round =>
        obtain ⟨k, hk, rfl, hB⟩ := hrel
        have ht := hta wr hB
        by_cases hlt : k < n
        · have hlt' : (k : Int) < (n : Int) := by omega
          have h32 : (k : Int) < 32 := by omega
          have d1 : decide ((k : Int) < (n : Int)) = true := by simpa using hlt'
          have d2 : decide ((k : Int) < 32) = true := by simpa using h32
          have hwk : IntKind.i64.wrap ((k : Int) + 1) = (k : Int) + 1 := by rw [IntKind.wrap_i64]; omega
          go_wp2_with fail
          refine ht.mono ?_
          clear ht
          rintro e w6 ⟨rfl, hb6⟩
          have hB6 := below_nx hB hb6 (Nat.le_refl _)
          have hmv := mmoves_any (k : Int) w6 (hM5.below hB6) hI.sane
          obtain ⟨L, hL⟩ : ∃ L, L = M.moves (k : Int) := ⟨_, rfl⟩
          rw [<- hL] at hmv
          have HL := Lib.hid hL
          clear hb6 hB hL
          go_wp2_with fail
          refine hmv.mono ?_
          clear hmv
          rintro e w7 ⟨v, rfl, hE, hb7⟩
          obtain ⟨ra, rc, rfl⟩ := hE.slice
          have hE7 := hE.1
          have hB7 := below_nx hB6 hb7 (Nat.le_refl _)
          have hst := stand_any (k : Int) w7 (hM5.below hB7) (by have := hI.tl; have := hI.mo; omega) hI.chk hI.small
          clear hE hb7 hB6
          go_wp2_with fail
          refine hst.mono ?_
          clear hst
          rintro e w8 ⟨rfl, hb8⟩
          have hE8 := hE7.below hb8
          have hB8 := below_nx hB7 hb8 (Nat.le_refl _)
          obtain ⟨w9, hw9⟩ : ∃ w9, w9 = w8.alloc (.cells (fraA (M.stand (k : Int)).1) 46) := ⟨_, rfl⟩
          have hB9 : Below w5.heap.size w5 w9 := by rw [hw9]; exact Mch.Below.al hB8 hB8.size _
          have hE9 := hE8.below (show Below w8.heap.size w8 w9 by rw [hw9]; exact below1 w8 _)
          clear hE7 hE8 hB7 hB8 hb8
          have hcase : (M.e ≠ 0 /\ L.length = 0) \/ (M.e = 0 /\ (M.stand (k : Int)).2 ≠ 0) \/ (M.e = 0 /\ (M.stand (k : Int)).2 = 0 /\ L.length ≠ 0) := by
            by_cases he : M.e = 0
            · by_cases hg : (M.stand (k : Int)).2 = 0
              · exact .inr (.inr ⟨he, hg, fun e => moves_some he hg (by rw [<- HL.out]; exact List.eq_nil_of_length_eq_zero e)⟩)
              · exact .inr (.inl ⟨he, hg⟩)
            · exact .inl ⟨he, by rw [HL.out, moves_halt he]; rfl⟩
          obtain ⟨g, hg⟩ : ∃ g, g = (M.stand (k : Int)).2 := ⟨_, rfl⟩
          rw [<- HME.out, <- hg] at hcase
          go_upto_region 13 with fail
          rw [<- hw9, <- hg]
          clear hw9 hg
          go_cut [95] from 76 to 94 (fun bv W => bv = .bool false /\ W = w9)
          case first =>
            rcases hcase with ⟨h1, h2⟩ | ⟨h1, h2⟩ | ⟨h1, h2, h3⟩
            · have t1 : (me == 0) = false := beq_eq_false_iff_ne.mpr h1
              have t2 : (me != 0) = true := by simpa using h1
              have t3 : decide (0 < (L.length : Int)) = false := by rw [h2]; rfl
              go_wp2_with fail
              go_meet
              exact ⟨rfl, rfl⟩
            · have t2 : (g == 0) = false := beq_eq_false_iff_ne.mpr h2
              have t1 : (me == 0) = true := by rw [h1]; rfl
              have t3 : (me != 0) = false := by rw [h1]; rfl
              clear h1
              go_wp2_with fail
              go_meet
              exact ⟨rfl, rfl⟩
            · have t3 : ((L.length : Int) == 0) = false := beq_eq_false_iff_ne.mpr (by omega)
              have t1 : (me == 0) = true := by rw [h1]; rfl
              have t2 : (me != 0) = false := by rw [h1]; rfl
              have t4 : (g == 0) = true := by rw [h2]; rfl
              clear h1 h2
              go_wp2_with fail
              go_meet
              exact ⟨rfl, rfl⟩
          case rest =>
            obtain ⟨rfl, hwc⟩ := hcut
            rw [hwc]
            clear hcase hwc wc
            have hll : L.length <= 1000 := by rw [HL.out]; exact moves_len hI _
            go_wp2_with fail
            go_loopw [17] (fun iv wr => ∃ c : Nat, c <= L.length /\ iv = .int .i64 (c : Int) /\ Below w9.heap.size w9 wr) (fun iv _ => L.length - (intOf iv).toNat)
            case atStart => exact ⟨0, Nat.zero_le _, rfl, Below.refl _ _⟩
            case round =>
              obtain ⟨c, hc, rfl, hC⟩ := hrel
              by_cases hcl : c < L.length
              · have hcl' : (c : Int) < (L.length : Int) := by omega
                have c0 : (0 : Int) <= (c : Int) := by omega
                have hwc : IntKind.i64.wrap ((c : Int) + 1) = (c : Int) + 1 := by rw [IntKind.wrap_i64]; omega
                have hD := below_nx hB9 hC (Nat.le_refl _)
                have hcp := mcopy_any wr (hM5.below hD) hI
                go_wp2_with fail
                refine hcp.mono ?_
                clear hcp
                rintro e w10 ⟨A2, rfl, ⟨o2, hN2, hn2⟩, hb10⟩
                have hC10 := below_nx hC hb10 (Nat.le_refl _)
                have hR10 : Runs wr o2 A2 M w10 := ⟨hN2, hI, hb10, hn2⟩
                obtain ⟨y, hy⟩ : ∃ y, L[c]? = some y := ⟨_, List.getElem?_eq_getElem hcl⟩
                have hmem : y ∈ M.moves (k : Int) := by rw [<- HL.out]; exact List.mem_of_getElem? hy
                have hmv := (moves_ok hI y hmem).1
                have haa := hmv.aa
                have htt := hmv.tt
                have hap := hR10.apply hmv.wf
                rw [apply_move hI hmem] at hap
                have HS := Lib.hid (fun j => apply_task hI hmem j)
                obtain ⟨N, hN⟩ : ∃ N, N = M.apply y := ⟨_, rfl⟩
                rw [<- hN] at hap HS
                obtain ⟨b, off, rfl, hbl, -, -, -, -, x4, -⟩ := (hE9.below hC).at hy
                have hyp : ∀ W, Below wr.heap.size wr W -> W.cell? ⟨b, off + c * 13 + 4, none⟩ = some (.int .i64 y.p) := fun W hW => (hW.cell (p := ⟨b, off + c * 13 + 4, none⟩) hbl).trans x4
                obtain ⟨b2, off2, hab, -, y0, y1, y2, y3, y4, y5, y6, y7, y8, y9, y10, y11, y12⟩ := (hE9.below hC10).at hy
                cases hab
                clear x4 hbl
                clear hmv hmem hy hN hN2 hn2 hb10 hR10
                obtain ⟨ya, yk, yw, yt, yp, yc, yb, yq, yv, yu, yo, ye, ys⟩ := y
                simp only at haa htt hyp y0 y1 y2 y3 y4 y5 y6 y7 y8 y9 y10 y11 y12
                subst haa htt
                go_wp2_with fail
                refine hap.mono ?_
                clear hap y0 y1 y2 y3 y4 y5 y6 y7 y8 y9 y10 y11 y12
                rintro e w11 ⟨rfl, o3, hG, hR11⟩
                have hz2 := fun (W : World) (hW : Below w11.heap.size w11 W) (j : Nat) => task_any (j : Int) W (hR11.md.below hW) (by have := hR11.inv.tl; have := hR11.inv.mo; omega)
                have hz1 := fun (W : World) (hW : Below w5.heap.size w5 W) (j : Nat) => task_any (j : Int) W (hM5.below hW) (by have := hI.tl; have := hI.mo; omega)
                have hC11 := below_nx hC hR11.bel (Nat.le_refl _)
                have hD11 := below_nx hD hR11.bel (Nat.le_refl _)
                have hy11 := fun (W : World) (hW : Below w11.heap.size w11 W) => hyp W (below_nx hR11.bel hW (Nat.le_refl _))
                clear hyp hG hC hC10 hR11 hD
                go_wp2_with fail
                go_loopw [19] (fun iv wr => ∃ j : Nat, j <= n /\ iv = .int .i64 (j : Int) /\ Below w11.heap.size w11 wr) (fun iv _ => n - (intOf iv).toNat)
                case atStart => exact ⟨0, Nat.zero_le _, rfl, Below.refl _ _⟩
                case round =>
                  obtain ⟨j, hj, rfl, hQ⟩ := hrel
                  have ht := hta _ (below_nx hD11 hQ (Nat.le_refl _))
                  by_cases hjl : j < n
                  · have hjl' : (j : Int) < (n : Int) := by omega
                    have hwj : IntKind.i64.wrap ((j : Int) + 1) = (j : Int) + 1 := by rw [IntKind.wrap_i64]; omega
                    have hcase : j = k \/ (j ≠ k /\ (j : Int) = yp) \/ (j ≠ k /\ (j : Int) ≠ yp /\ (N.task (j : Int)).getD Pla.zero = (M.task (j : Int)).getD Pla.zero) := by
                      by_cases a1 : j = k
                      · exact .inl a1
                      · by_cases a2 : (j : Int) = yp
                        · exact .inr (.inl ⟨a1, a2⟩)
                        · exact .inr (.inr ⟨a1, a2, by rw [HS.out j (by rw [<- HN.out]; exact hjl) (by omega) a2]⟩)
                    go_wp2_with fail
                    refine ht.mono ?_
                    clear ht
                    rintro e w12 ⟨rfl, hb12⟩
                    have hQ12 := below_nx hQ hb12 (Nat.le_refl _)
                    have t1 := hz1 w12 (below_nx hD11 hQ12 (Nat.le_refl _)) j
                    obtain ⟨P1, hP1⟩ : ∃ P1, P1 = (M.task (j : Int)).getD Pla.zero := ⟨_, rfl⟩
                    obtain ⟨i1, hi1⟩ : ∃ i1, i1 = (M.task (j : Int)).isSome := ⟨_, rfl⟩
                    rw [<- hP1, <- hi1] at t1
                    rw [<- hP1] at hcase
                    clear hP1 hi1 hQ hb12
                    go_wp2_with fail
                    refine t1.mono ?_
                    clear t1
                    rintro e w13 ⟨rfl, hb13⟩
                    obtain ⟨w14, hw14⟩ : ∃ w14, w14 = w13.alloc (.cells (plaA P1) 52) := ⟨_, rfl⟩
                    have hQ13 := below_nx hQ12 hb13 (Nat.le_refl _)
                    have hQ14 : Below w11.heap.size w11 w14 := by rw [hw14]; exact Mch.Below.al hQ13 hQ13.size _
                    have hX14 : Blk w14 w13.heap.size 52 (plaA P1) := by rw [hw14]; exact blk_new w13 _ _
                    have t2 := hz2 w14 hQ14 j
                    obtain ⟨P2, hP2⟩ : ∃ P2, P2 = (N.task (j : Int)).getD Pla.zero := ⟨_, rfl⟩
                    obtain ⟨i2, hi2⟩ : ∃ i2, i2 = (N.task (j : Int)).isSome := ⟨_, rfl⟩
                    rw [<- hP2, <- hi2] at t2
                    rw [<- hP2] at hcase
                    clear hP2 hi2 hQ12 hQ13 hb13
                    go_upto_region 25 with fail
                    rw [<- hw14]
                    clear hw14
                    go_wp2_with fail
                    refine t2.mono ?_
                    clear t2
                    rintro e w15 ⟨rfl, hb15⟩
                    obtain ⟨w16, hw16⟩ : ∃ w16, w16 = w15.alloc (.cells (plaA P2) 52) := ⟨_, rfl⟩
                    have hQ15 := below_nx hQ14 hb15 (Nat.le_refl _)
                    have hQ16 : Below w11.heap.size w11 w16 := by rw [hw16]; exact Mch.Below.al hQ15 hQ15.size _
                    have hX16 : Blk w16 w13.heap.size 52 (plaA P1) := by rw [hw16]; exact (hX14.later hb15 hX14.lt).alloc _
                    have hY16 : Blk w16 w15.heap.size 52 (plaA P2) := by rw [hw16]; exact blk_new w15 _ _
                    clear hQ14 hX14 hb15 hQ15
                    go_upto_region 26 with fail
                    rw [<- hw16]
                    clear hw16
                    rcases hcase with a1 | ⟨a1, a2⟩ | ⟨a1, a2, a3⟩
                    · have e1 : ((j : Int) != (k : Int)) = false := by rw [a1]; simp
                      clear a1 hX16 hY16
                      go_wp2_with fail
                      go_roundw
                      case rel => exact ⟨j + 1, by omega, by go_num, hQ16⟩
                      case measure => simp [intOf]; omega
                    · have e1 : ((j : Int) != (k : Int)) = true := by simp; omega
                      have e2 : ((j : Int) != yp) = false := by rw [a2]; simp
                      have y4 := hy11 w16 hQ16
                      clear a1 a2 hX16 hY16
                      go_wp2_with fail
                      go_roundw
                      case rel => exact ⟨j + 1, by omega, by go_num, hQ16⟩
                      case measure => simp [intOf]; omega
                    · have e1 : ((j : Int) != (k : Int)) = true := by simp; omega
                      have e2 : ((j : Int) != yp) = true := by simpa using a2
                      have y4 := hy11 w16 hQ16
                      subst a3
                      have p0 : w16.cell? ⟨w13.heap.size, 0, none⟩ = some (.int .u8 (P2.s : Int)) := hX16.cell rfl
                      have p1 : w16.cell? ⟨w13.heap.size, 1, none⟩ = some (.int .i64 P2.f.c) := hX16.cell rfl
                      have p2 : w16.cell? ⟨w13.heap.size, 2, none⟩ = some (.int .i64 P2.f.p) := hX16.cell rfl
                      have p3 : w16.cell? ⟨w13.heap.size, 3, none⟩ = some (.int .i64 P2.f.r0) := hX16.cell rfl
                      have p4 : w16.cell? ⟨w13.heap.size, 4, none⟩ = some (.int .i64 P2.f.r1) := hX16.cell rfl
                      have p5 : w16.cell? ⟨w13.heap.size, 5, none⟩ = some (.int .i64 P2.f.r2) := hX16.cell rfl
                      have p6 : w16.cell? ⟨w13.heap.size, 6, none⟩ = some (.int .i64 P2.f.r3) := hX16.cell rfl
                      have p7 : w16.cell? ⟨w13.heap.size, 7, none⟩ = some (.int .i64 P2.f.r4) := hX16.cell rfl
                      have p8 : w16.cell? ⟨w13.heap.size, 8, none⟩ = some (.int .i64 P2.f.r5) := hX16.cell rfl
                      have p9 : w16.cell? ⟨w13.heap.size, 9, none⟩ = some (.int .i64 P2.f.r6) := hX16.cell rfl
                      have p10 : w16.cell? ⟨w13.heap.size, 10, none⟩ = some (.int .i64 P2.f.r7) := hX16.cell rfl
                      have r0 : w16.cell? ⟨w15.heap.size, 0, none⟩ = some (.int .u8 (P2.s : Int)) := hY16.cell rfl
                      have r1 : w16.cell? ⟨w15.heap.size, 1, none⟩ = some (.int .i64 P2.f.c) := hY16.cell rfl
                      have r2 : w16.cell? ⟨w15.heap.size, 2, none⟩ = some (.int .i64 P2.f.p) := hY16.cell rfl
                      have r3 : w16.cell? ⟨w15.heap.size, 3, none⟩ = some (.int .i64 P2.f.r0) := hY16.cell rfl
                      have r4 : w16.cell? ⟨w15.heap.size, 4, none⟩ = some (.int .i64 P2.f.r1) := hY16.cell rfl
                      have r5 : w16.cell? ⟨w15.heap.size, 5, none⟩ = some (.int .i64 P2.f.r2) := hY16.cell rfl
                      have r6 : w16.cell? ⟨w15.heap.size, 6, none⟩ = some (.int .i64 P2.f.r3) := hY16.cell rfl
                      have r7 : w16.cell? ⟨w15.heap.size, 7, none⟩ = some (.int .i64 P2.f.r4) := hY16.cell rfl
                      have r8 : w16.cell? ⟨w15.heap.size, 8, none⟩ = some (.int .i64 P2.f.r5) := hY16.cell rfl
                      have r9 : w16.cell? ⟨w15.heap.size, 9, none⟩ = some (.int .i64 P2.f.r6) := hY16.cell rfl
                      have r10 : w16.cell? ⟨w15.heap.size, 10, none⟩ = some (.int .i64 P2.f.r7) := hY16.cell rfl
                      have qn := pla_ne P2
                      clear a1 a2 hX16 hY16
                      go_wp2_with fail
                      go_roundw
                      case rel => exact ⟨j + 1, by omega, by go_num, hQ16⟩
                      case measure => simp [intOf]; omega
                  · have hjl' : ¬ (j : Int) < (n : Int) := by omega
                    go_wp2_with fail
                    refine ht.mono ?_
                    clear ht
                    rintro e w12 ⟨rfl, hb12⟩
                    have hC12 := below_nx hC11 (below_nx hQ hb12 (Nat.le_refl _)) (Nat.le_refl _)
                    go_wp2_with fail
                    go_roundw
                    case rel => exact ⟨c + 1, by omega, by go_num, hC12⟩
                    case measure => simp [intOf]; omega
              · have hcl' : ¬ (c : Int) < (L.length : Int) := by omega
                have hD := below_nx hB9 hC (Nat.le_refl _)
                go_wp2_with fail
                go_roundw
                case rel => exact ⟨k + 1, by omega, by go_num, hD⟩
                case measure => simp [intOf]; omega
        · obtain rfl : k = n := by omega
          have d1 : decide ((k : Int) < (k : Int)) = false := by simp
          clear hta
          go_wp2_with fail
          refine ht.mono ?_
          clear ht
          rintro e w6 ⟨rfl, hb6⟩
          have hB6 := below_nx hB hb6 (Nat.le_refl _)
          have hM6 := hM5.below hB6
          have hX6 := hX5.later hB6 hX5.lt
          have hW6 := below_nx hB5 hB6 (Nat.le_refl _)
          clear hb6 hB hX5 hM5 hB5 hB6 HN HME hTn
          have hmv := mmoves_any x.t w6 hM6 hI.sane
          have hll := moves_len hI x.t
          have hall := isM_all hI x
          obtain ⟨L, hL⟩ : ∃ L, L = M.moves x.t := ⟨_, rfl⟩
          rw [<- hL] at hmv hall hll
          have x3 : w6.cell? ⟨w.heap.size + 1, 3, none⟩ = some (.int .i64 x.t) := hX6.cell rfl
          obtain ⟨ap, hap0⟩ : ∃ ap, ap = M.applyE x := ⟨_, rfl⟩
          rw [<- hap0] at hall
          have HAP := Lib.hid hap0
          have HALL := Lib.hid hall
          clear hL hap0 hall
          go_wp2_with fail
          refine hmv.mono ?_
          clear hmv x3
          rintro e w7 ⟨v, rfl, hE, hb7⟩
          obtain ⟨ra, rc, rfl⟩ := hE.slice
          have hE7 := hE.1
          have hM7 := hM6.below hb7
          have hX7 := hX6.later hb7 hX6.lt
          have hW7 := below_nx hW6 hb7 (Nat.le_refl _)
          clear hE hb7 hM6 hX6 hW6
          go_wp2_with fail
          go_loopw [24, 26] (fun bv iv wr => ∃ (c : Nat) (b : Bool), c <= L.length /\ bv = .bool b /\ iv = .int .i64 (c : Int) /\ Hid (b = isM L x c) /\ Below w7.heap.size w7 wr) (fun _ iv _ => L.length - (intOf iv).toNat)
          case atStart => exact ⟨0, false, Nat.zero_le _, rfl, rfl, Lib.hid (by simp [isM]), Below.refl _ _⟩
          case round =>
            obtain ⟨c, b, hc, rfl, rfl, HB, hC⟩ := hrel
            by_cases hcl : c < L.length
            · have hcl' : (c : Int) < (L.length : Int) := by omega
              have c0 : (0 : Int) <= (c : Int) := by omega
              have hwc : IntKind.i64.wrap ((c : Int) + 1) = (c : Int) + 1 := by rw [IntKind.wrap_i64]; omega
              obtain ⟨y, hy⟩ : ∃ y, L[c]? = some y := ⟨_, List.getElem?_eq_getElem hcl⟩
              have HS := Lib.hid (isM_snoc L x hy)
              obtain ⟨w8, hw8⟩ : ∃ w8, w8 = wr.alloc (.cells (enA x) 32) := ⟨_, rfl⟩
              have hC8 : Below w7.heap.size w7 w8 := by rw [hw8]; exact Mch.Below.al hC hC.size _
              have hY8 : Blk w8 wr.heap.size 32 (enA x) := by rw [hw8]; exact blk_new wr _ _
              obtain ⟨Q, hQ⟩ : ∃ Q, Q = wr.heap.size := ⟨_, rfl⟩
              rw [<- hQ] at hY8
              have hQ7 : w7.heap.size <= Q := by rw [hQ]; exact hC.size
              have hXr := hX7.later hC hX7.lt
              have x0 : wr.cell? ⟨w.heap.size + 1, 0, none⟩ = some (.int .i64 x.a) := hXr.cell rfl
              have x1 : wr.cell? ⟨w.heap.size + 1, 1, none⟩ = some (.int .u8 (x.k : Int)) := hXr.cell rfl
              have x2 : wr.cell? ⟨w.heap.size + 1, 2, none⟩ = some (.int .i64 x.w) := hXr.cell rfl
              have x3 : wr.cell? ⟨w.heap.size + 1, 3, none⟩ = some (.int .i64 x.t) := hXr.cell rfl
              have x4 : wr.cell? ⟨w.heap.size + 1, 4, none⟩ = some (.int .i64 x.p) := hXr.cell rfl
              have x5 : wr.cell? ⟨w.heap.size + 1, 5, none⟩ = some (.int .i64 x.c) := hXr.cell rfl
              have x6 : wr.cell? ⟨w.heap.size + 1, 6, none⟩ = some (.int .i64 x.b) := hXr.cell rfl
              have x7 : wr.cell? ⟨w.heap.size + 1, 7, none⟩ = some (.int .i64 x.q) := hXr.cell rfl
              have x8 : wr.cell? ⟨w.heap.size + 1, 8, none⟩ = some (.int .i64 x.v) := hXr.cell rfl
              have x9 : wr.cell? ⟨w.heap.size + 1, 9, none⟩ = some (.int .i64 x.u) := hXr.cell rfl
              have x10 : wr.cell? ⟨w.heap.size + 1, 10, none⟩ = some (.bool x.o) := hXr.cell rfl
              have x11 : wr.cell? ⟨w.heap.size + 1, 11, none⟩ = some (.int .i64 x.e) := hXr.cell rfl
              have x12 : wr.cell? ⟨w.heap.size + 1, 12, none⟩ = some (.int .u64 (x.s : Int)) := hXr.cell rfl
              go_upto_region 34 with fail
              rw [<- hw8, <- hQ]
              clear hw8 hQ x0 x1 x2 x3 x4 x5 x6 x7 x8 x9 x10 x11 x12 hXr
              have fz : w8.frozen? ⟨Q, 0, none⟩ = false := hY8.frozen 0
              have q0 : w8.cell? ⟨Q, 0, none⟩ = some (.int .i64 x.a) := hY8.cell rfl
              obtain ⟨w9, hw9⟩ : ∃ w9, w9 = w8.setCell ⟨Q, 0, none⟩ (.int .i64 0) := ⟨_, rfl⟩
              have hY9 : Blk w9 Q 32 #[.int .i64 0, .int .u8 (x.k : Int), .int .i64 x.w, .int .i64 x.t, .int .i64 x.p, .int .i64 x.c, .int .i64 x.b, .int .i64 x.q, .int .i64 x.v, .int .i64 x.u, .bool x.o, .int .i64 x.e, .int .u64 (x.s : Int)] := by
                rw [hw9]
                have := hY8.set 0 (.int .i64 0)
                simpa using this
              have hC9 : Below w7.heap.size w7 w9 := by rw [hw9]; exact below_set hC8 hQ7 _ _
              go_upto_region 35 with fail
              rw [<- hw9]
              clear hw9 fz q0 hY8 hC8
              have hXn := hX7.later hC9 hX7.lt
              have xa : w9.cell? ⟨w.heap.size + 1, 0, none⟩ = some (.int .i64 x.a) := hXn.cell rfl
              have hCd : ∀ m, Below w7.heap.size w7 (w9.drewN m) := fun m => Mch.below_drewN hC9 m
              cases b with
              | true =>
                have HT : Hid (true = isM L x (c + 1)) := Lib.hid (by rw [HS.out, <- HB.out]; rfl)
                clear xa hXn hY9
                go_quiet (fail)
                go_wp2_with fail
                go_roundw
                case rel => exact ⟨c + 1, true, by omega, rfl, by go_num, HT, hCd _⟩
                case measure => simp [intOf]; omega
              | false =>
                obtain ⟨b2, off2, rfl, -, y0, y1, y2, y3, y4, y5, y6, y7, y8, y9, y10, y11, y12⟩ := (hE7.below hC9).at hy
                have q0 : w9.cell? ⟨Q, 0, none⟩ = some (.int .i64 0) := hY9.cell rfl
                have q1 : w9.cell? ⟨Q, 1, none⟩ = some (.int .u8 (x.k : Int)) := hY9.cell rfl
                have q2 : w9.cell? ⟨Q, 2, none⟩ = some (.int .i64 x.w) := hY9.cell rfl
                have q3 : w9.cell? ⟨Q, 3, none⟩ = some (.int .i64 x.t) := hY9.cell rfl
                have q4 : w9.cell? ⟨Q, 4, none⟩ = some (.int .i64 x.p) := hY9.cell rfl
                have q5 : w9.cell? ⟨Q, 5, none⟩ = some (.int .i64 x.c) := hY9.cell rfl
                have q6 : w9.cell? ⟨Q, 6, none⟩ = some (.int .i64 x.b) := hY9.cell rfl
                have q7 : w9.cell? ⟨Q, 7, none⟩ = some (.int .i64 x.q) := hY9.cell rfl
                have q8 : w9.cell? ⟨Q, 8, none⟩ = some (.int .i64 x.v) := hY9.cell rfl
                have q9 : w9.cell? ⟨Q, 9, none⟩ = some (.int .i64 x.u) := hY9.cell rfl
                have q10 : w9.cell? ⟨Q, 10, none⟩ = some (.bool x.o) := hY9.cell rfl
                have q11 : w9.cell? ⟨Q, 11, none⟩ = some (.int .i64 x.e) := hY9.cell rfl
                have q12 : w9.cell? ⟨Q, 12, none⟩ = some (.int .u64 (x.s : Int)) := hY9.cell rfl
                obtain ⟨r, hr⟩ : ∃ r, r = Ent.En.eq y (En.at0 x) := ⟨_, rfl⟩
                have qe : ∀ W, (binOp .eql 32 (enV y) (.agg #[.int .i64 0, .int .u8 (x.k : Int), .int .i64 x.w, .int .i64 x.t, .int .i64 x.p, .int .i64 x.c, .int .i64 x.b, .int .i64 x.q, .int .i64 x.v, .int .i64 x.u, .bool x.o, .int .i64 x.e, .int .u64 (x.s : Int)])).run Tryz.prog W = .ok (.bool r) W := fun W => by rw [hr]; exact eq_run y (En.at0 x) W
                have HR := Lib.hid hr
                clear hr hy hXn hY9
                cases r with
                | true =>
                  obtain ⟨z, hz⟩ : ∃ z, z = decide (0 <= x.a) := ⟨_, rfl⟩
                  have HT : Hid (z = isM L x (c + 1)) := Lib.hid (by rw [HS.out, <- HB.out, <- HR.out, hz]; simp)
                  by_cases ha : 0 <= x.a
                  · obtain rfl : z = true := by rw [hz]; simpa using ha
                    have da : decide (0 <= x.a) = true := hz.symm
                    clear hz
                    go_quiet (fail)
                    go_wp2_with fail
                    go_roundw
                    case rel => exact ⟨c + 1, true, by omega, rfl, by go_num, HT, hCd _⟩
                    case measure => simp [intOf]; omega
                  · obtain rfl : z = false := by rw [hz]; simpa using ha
                    have da : decide (0 <= x.a) = false := hz.symm
                    clear hz
                    go_quiet (fail)
                    go_wp2_with fail
                    go_roundw
                    case rel => exact ⟨c + 1, false, by omega, rfl, by go_num, HT, hCd _⟩
                    case measure => simp [intOf]; omega
                | false =>
                  have HT : Hid (false = isM L x (c + 1)) := Lib.hid (by rw [HS.out, <- HB.out, <- HR.out]; simp)
                  clear xa
                  go_quiet (fail)
                  go_wp2_with fail
                  go_roundw
                  case rel => exact ⟨c + 1, false, by omega, rfl, by go_num, HT, hCd _⟩
                  case measure => simp [intOf]; omega
            · have hcl' : ¬ (c : Int) < (L.length : Int) := by omega
              obtain rfl : c = L.length := by omega
              have hD := below_nx hW7 hC (Nat.le_refl _)
              have HZ : (ap == 0) = b := by rw [HALL.out, HB.out]
              have hBd : Below w.heap.size w wr.drew := hD.drew
              have hXd : Blk wr.drew (w.heap.size + 1) 32 (enA x) := (hX7.later hC hX7.lt).later (Below.refl _ _).drew (hX7.later hC hX7.lt).lt
              have hcp := mcopy_any wr.drew ((hM7.below hC).below (Below.refl _ _).drew) hI
              clear hM7 hX7 hC hE7 hcl hcl' hD
              go_upto_region 36 with fail
              refine wp_region_held_drew (S := fun W => Blk W (w.heap.size + 1) 32 (enA x)) (by kernel_rfl) hXd (fun hHeld => ?_)
              refine takeD (i := 0) (d := some 193) (v := ptrV A) (by kernel_rfl) (by kernel_rfl) (by kernel_rfl) (by kernel_rfl) (fun _ _ _ h => h) (fun oi h => ?_) hHeld ?_
              · simp only [uA, uZ, Option.some.injEq] at h
                subst h
                refine Or.inl ⟨by rfl, fun w' hSw => ?_⟩
                go_simp
              try simp only [Act.put, tA, tZ, tS]
              refine takeD (i := 2) (d := some 195) (v := enV x) (by kernel_rfl) (by kernel_rfl) (by kernel_rfl) (by kernel_rfl) (fun _ _ _ h => h) (fun oi h => ?_) hHeld ?_
              · simp only [uA, uS, uZ, Option.some.injEq] at h
                subst h
                refine Or.inl ⟨by rfl, fun w' hSw => ?_⟩
                exact exec_load_row rfl rfl hSw Tryz.underlying32 rfl szEn
              try simp only [Act.put, tA, tZ, tS]
              refine takeD (i := 5) (d := some 198) (v := .bool b) (by kernel_rfl) (by kernel_rfl) (by kernel_rfl) (by kernel_rfl) (fun _ _ _ h => h) (fun oi h => ?_) hHeld ?_
              · simp only [uA, uS, uZ, Option.some.injEq] at h
                subst h
                refine Or.inl ⟨by rfl, fun w' hSw => ?_⟩
                go_simp
              try simp only [Act.put, tA, tZ, tS]
              refine wpAnyH_ready (rs := [1]) (by kernel_rfl) (by simp) ?_
              refine AllReadyH.cons rfl (fun K hKK => ?_) AllReadyH.nil
              go_simp
              refine (hcp).mono ?_
              rintro e w9 ⟨A2, rfl, ⟨o2, hN2, hn2⟩, hb9⟩
              have hap := Runs.apply (w := wr.drew) ⟨hN2, hI, hb9, hn2⟩ hx
              rw [<- HAP.out] at hap
              have hB9 := below_nx hBd hb9 (Nat.le_refl _)
              refine hKK.out _ _ (hXd.later hb9 hXd.lt) (fun hHeld => ?_)
              clear hKK K
              try simp only [Act.put, tA, tZ, tS]
              refine wpAnyH_ready (rs := [3]) (by kernel_rfl) (by simp) ?_
              refine AllReadyH.cons rfl (fun K hKK => ?_) AllReadyH.nil
              go_simp
              refine (hap).mono ?_
              rintro e w10 ⟨rfl, o3, -, hR3⟩
              have hB10 := below_nx hBd hR3.bel (Nat.le_refl _)
              refine hKK.out _ _ (hXd.later hR3.bel hXd.lt) (fun hHeld => ?_)
              clear hKK K
              try simp only [Act.put, tA, tZ, tS]
              clear hB9 hap
              refine takeD (i := 4) (d := some 197) (v := .bool b) (by kernel_rfl) (by kernel_rfl) (by kernel_rfl) (by kernel_rfl) (fun _ _ _ h => h) (fun oi h => ?_) hHeld ?_
              · simp only [uA, uS, uZ, Option.some.injEq] at h
                subst h
                refine Or.inl ⟨by rfl, fun w' hSw => ?_⟩
                go_simp
              try simp only [Act.put, tA, tZ, tS]
              refine takeD (i := 6) (d := some 199) (v := .bool true) (by kernel_rfl) (by kernel_rfl) (by kernel_rfl) (by kernel_rfl) (fun _ _ _ h => h) (fun oi h => ?_) hHeld ?_
              · simp only [uA, uS, uZ, Option.some.injEq] at h
                subst h
                refine Or.inl ⟨by rfl, fun w' hSw => ?_⟩
                go_simp
              try simp only [Act.put, tA, tZ, tS]
              refine takeD (i := 7) (d := some 200) (v := .bool true) (by kernel_rfl) (by kernel_rfl) (by kernel_rfl) (by kernel_rfl) (fun _ _ _ h => h) (fun oi h => ?_) hHeld ?_
              · simp only [uA, uS, uZ, Option.some.injEq] at h
                subst h
                refine Or.inl ⟨by rfl, fun w' hSw => ?_⟩
                go_simp
              try simp only [Act.put, tA, tZ, tS]
              refine wpAnyH_ready (rs := [8]) (by kernel_rfl) (by simp) ?_
              refine AllReadyH.cons rfl (fun K hKK => ?_) AllReadyH.nil
              go_simp
              refine (alive_any _).mono ?_
              rintro e w11 ⟨rfl, hb11⟩
              have hB11 := below_nx hB10 hb11 (Nat.le_refl _)
              refine hKK.out _ _ ((hXd.later hR3.bel hXd.lt).later hb11 (hXd.later hR3.bel hXd.lt).lt) (fun hHeld => ?_)
              clear hKK K
              try simp only [Act.put, tA, tZ, tS]
              refine takeD (i := 9) (d := some 202) (v := .bool true) (by kernel_rfl) (by kernel_rfl) (by kernel_rfl) (by kernel_rfl) (fun _ _ _ h => h) (fun oi h => ?_) hHeld ?_
              · simp only [uA, uS, uZ, Option.some.injEq] at h
                subst h
                refine Or.inl ⟨by rfl, fun w' hSw => ?_⟩
                go_simp
              try simp only [Act.put, tA, tZ, tS]
              refine takeD (i := 10) (d := some 8) (v := .bool true) (by kernel_rfl) (by kernel_rfl) (by kernel_rfl) (by kernel_rfl) (fun _ _ _ h => h) (fun oi h => ?_) hHeld ?_
              · simp only [uA, uS, uZ, Option.some.injEq] at h
                subst h
                refine Or.inl ⟨by rfl, fun w' hSw => ?_⟩
                go_simp
              try simp only [Act.put, tA, tZ, tS]
              refine wpAnyH_done (by kernel_rfl) ?_ _
              go_wp2_with fail
              go_ret
              exact ⟨rfl, hB11⟩
end Go.Proofs.YtdijhgaaeifbfaaGreat.Mdl
