/-
  ModelMoves: its walks, part 30: DReady DOne.
-/
import Derived.Test.YtdijhgaaeifbfaaGreatQ00
import Derived.Test.YtdijhgaaeifbfaaGreatQ24
import Derived.Test.YtdijhgaaeifbfaaGreatQ25
import Derived.Test.YtdijhgaaeifbfaaGreatQ29
set_option maxRecDepth 100000
set_option maxHeartbeats 12800000
namespace Go.Proofs.YtdijhgaaeifbfaaGreat.Mdl
open Go.RowKit
open Ent (En EnRow EnAt)
open Mch (Wt Gt whatK putL Chn Frm Fw Fl grown_below below1 below_nx owns_slice' boxed_below)
theorem ready_any {o : Nat -> Nat} {B : Nat} {M : Mod} (op : Opn) (w : World) (h : Md w o B M) (hc : op.c = -1 \/ (0 <= op.c /\ op.c < (M.C.length : Int))) (hS : (M.ch op.c).S.length <= 1000) (hR : (M.ch op.c).R.length <= 1000) :
    Calls Tryz.prog 145 #[ptrV B, opV op] w fun e w' => e = .returned (.bool (ready M op)) /\ Below w.heap.size w w' := by
  obtain ⟨wa, hwa⟩ : ∃ wa, wa = w.alloc (.cells (opA op) 193) := ⟨_, rfl⟩
  have hBa : Below w.heap.size w wa := by rw [hwa]; exact below1 w _
  have hOp : Blk wa w.heap.size 193 (opA op) := by rw [hwa]; exact blk_new w _ _
  obtain ⟨ob, os, oc, ov⟩ := op
  simp only at hc hS hR
  have hd : Blk wa.drew w.heap.size 193 (opA ⟨ob, os, oc, ov⟩) := hOp
  by_cases hn : oc = -1
  · have HC : Hid (ready M ⟨ob, os, oc, ov⟩ = false) := Lib.hid (by unfold ready; simp [hn])
    have c2 : wa.drew.cell? ⟨w.heap.size, 2, none⟩ = some (.int .i64 (-1)) := by rw [<- hn]; exact hd.cell rfl
    clear hn hc
    go_enter Tryz.func145, Tryz.ntmps145
    go_upto_region 1 with fail
    rw [<- hwa]
    clear hwa
    have c2' : wa.cell? ⟨w.heap.size, 2, none⟩ = some (.int .i64 (-1)) := c2
    go_quiet (fail)
    go_wp2_with fail
    go_ret
    rw [HC.out]
    exact ⟨rfl, Mch.below_drewN hBa _⟩
  · have hc2 := hc.resolve_left hn
    obtain ⟨n, rfl⟩ : ∃ n : Nat, oc = (n : Int) := ⟨oc.toNat, by omega⟩
    have hnl : n < M.C.length := by omega
    have HC : Hid (ready M ⟨ob, os, n, ov⟩ = !((((M.ch (n : Int)).what os : Nat) : Int) == 6)) := Lib.hid (by
      unfold ready
      rw [show ((n : Int) != -1) = true by simp, Bool.true_and]
      show (_ != 6) = _
      rw [bne]
      congr 1
      by_cases e : (M.ch (n : Int)).what os = 6
      · rw [e]; rfl
      · rw [beq_eq_false_iff_ne.2 e]
        exact (beq_eq_false_iff_ne.2 (by omega)).symm)
    have hx := h
    obtain ⟨lo, hi, v1, v2, v3, vT, vC, Cs, hx⟩ := hx
    obtain ⟨C, g, cap, hC, hvC, hcell, hch⟩ := hx.chan hnl
    have hha := hx.below hBa
    have hchW : ∀ W, Below wa.heap.size wa W -> Calls Tryz.prog 136 #[ptrV C, .bool os] W fun e w' => e = .returned (.int .u8 (((M.ch (n : Int)).what os : Nat) : Int)) /\ Below wa.heap.size wa w' := fun W hW => by
      obtain ⟨b', u0, u1, hA, -⟩ := (hch.below (hBa.trans (hW.mono hBa.size))).at
      exact (Mch.what_any os W hA hS hR).mono fun e w' ⟨e1, e2⟩ => ⟨e1, below_nx hW e2 (Nat.le_refl _)⟩
    obtain ⟨K, hK⟩ : ∃ K, K = (M.ch (n : Int)).what os := ⟨_, rfl⟩
    rw [<- hK] at HC hchW
    have hkS : ∀ W, Below wa.heap.size wa W -> W.cell? ⟨w.heap.size, 2, none⟩ = some (.int .i64 (n : Int)) /\ W.cell? ⟨w.heap.size, 1, none⟩ = some (.bool os) /\ W.cell? ⟨B, 5, none⟩ = some (.slice (some ⟨g, 0, none⟩) M.C.length cap) /\ W.cell? ⟨g, n, none⟩ = some (ptrV C) /\ Below wa.heap.size wa W := fun W hW => by
      have h1 := Blk.later hOp hW hOp.lt
      have h2 := hha.below hW
      obtain ⟨C', g', cap', hC', hvC', hcell', -⟩ := h2.chan hnl
      rw [hC] at hC'
      cases hC'
      rw [hvC] at hvC'
      cases hvC'
      have h3 := h2.cn
      rw [hvC, hx.len] at h3
      exact ⟨h1.cell rfl, h1.cell rfl, h3, hcell', hW⟩
    have r0 : Below wa.heap.size wa wa.drew := (Below.refl _ _).drew
    obtain ⟨k0, k1, k2, k3, -⟩ := hkS _ r0
    have q0 : (0 : Int) <= (n : Int) := by omega
    have q1 : (n : Int) < (M.C.length : Int) := by omega
    have q2 : ((n : Int) == -1) = false := by simp
    clear hn hc hc2 h hx hK hch hcell hC hvC hha
    go_enter Tryz.func145, Tryz.ntmps145
    go_upto_region 1 with fail
    rw [<- hwa]
    clear hwa
    first
      | (go_region_held3 (fun W => W.cell? ⟨w.heap.size, 2, none⟩ = some (.int .i64 (n : Int)) /\ W.cell? ⟨w.heap.size, 1, none⟩ = some (.bool os) /\ W.cell? ⟨B, 5, none⟩ = some (.slice (some ⟨g, 0, none⟩) M.C.length cap) /\ W.cell? ⟨g, n, none⟩ = some (ptrV C) /\ Below wa.heap.size wa W)
          ((refine hkS _ ?_; with_reducible first | exact r0 | exact hb2))
          ((first
            | (go_at_call 136; with_reducible refine (hchW _ r0).mono ?_; rintro e w2 ⟨rfl, hb2⟩))))
    all_goals go_wp2_with fail
    all_goals go_ret
    all_goals rw [HC.out]
    all_goals exact ⟨rfl, hBa.trans (hb2.mono hBa.size)⟩
open Go.RowKit
open Ent (En EnRow EnAt)
open Mch (grown_below below1 below_nx owns_slice' boxed_below)
theorem closes_any {o : Nat -> Nat} {B : Nat} {M : Mod} (t : Int) (f : Fra) (x : In) (w : World) (h : Md w o B M) (hc : x.c = -1 \/ (0 <= x.c /\ x.c < (M.C.length : Int))) :
    Calls Tryz.prog 98 #[stdV B t f x] w fun e w' => ∃ v, e = .returned v /\ EnNew w.heap.size w' v [closeE M t x] /\ Below w.heap.size w w' := by
  obtain ⟨w1, hw1⟩ : ∃ w1, w1 = w.alloc (.cells (stdA B t f x) 90) := ⟨_, rfl⟩
  have hB1 : Below w.heap.size w w1 := by rw [hw1]; exact below1 w _
  have hS1 : StAt w1 w.heap.size B t f x := by rw [hw1]; exact blk_new w _ _
  have h1 := h.below hB1
  have sc := std_cells (show StAt w1 w.heap.size B t f x from hS1)
  obtain ⟨s0, s1, s2, s3, s4, s5, s6, s7, s8, s9, s10, s11, s12, s13, s14, s15, s16⟩ := sc
  by_cases hn : x.c = -1
  · have HC : Hid (closeE M t x = faultE t (-1) 142) := Lib.hid (by unfold closeE; rw [if_pos hn])
    have hf := fun W => fault_any t (-1) 142 W
    rw [hn] at s15
    clear h h1 hc hS1 hn
    go_enter Tryz.func98, Tryz.ntmps98
    go_upto_region 1 with fail
    rw [<- hw1]
    clear hw1
    go_wp2_with fail
    refine (hf _).mono ?_
    clear s0 s1 s2 s3 s4 s5 s6 s7 s8 s9 s10 s11 s12 s13 s14 s15 s16
    rintro e w2 ⟨rfl, hb2⟩
    have hB2 := below_nx hB1 hb2 (Nat.le_refl _)
    have hR := EnNew.one w2 (faultE t (-1) 142)
    have hB3 := Mch.Below.al hB2 hB2.size (.cells (enA (faultE t (-1) 142)) 32)
    go_wp2_with fail
    go_ret
    rw [HC.out]
    exact ⟨_, rfl, hR.mono hB2.size, hB3⟩
  · have hc2 : 0 <= x.c /\ x.c < (M.C.length : Int) := hc.resolve_left hn
    obtain ⟨n, hxc⟩ : ∃ n : Nat, x.c = (n : Int) := ⟨x.c.toNat, by omega⟩
    have hnl : n < M.C.length := by omega
    obtain ⟨lo, hi, v1, v2, v3, vT, vC, Cs, h1⟩ := h1
    obtain ⟨C, g, cap, hC, hvC, hcell, hch⟩ := h1.chan hnl
    have p3 := h1.cn
    rw [hvC, h1.len] at p3
    have hd : ((n : Int) == -1) = false := by simp
    have q0 : (0 : Int) <= (n : Int) := by omega
    have q1 : (n : Int) < (M.C.length : Int) := by omega
    obtain ⟨B', u0, u1, hcA, -⟩ := hch.at
    have hcl := Mch.closed_any w1 hcA
    have hmc : M.ch (n : Int) = M.ch x.c := by rw [hxc]
    cases hcc : (M.ch (n : Int)).cl with
    | true =>
      have HC : Hid (closeE M t x = faultE t (-1) 141) := Lib.hid (by unfold closeE; rw [if_neg hn, <- hmc, hcc]; rfl)
      have hf := fun W => fault_any t (-1) 141 W
      rw [hcc] at hcl
      rw [hxc] at s15
      clear h hc hS1 h1 hch hcA hn hc2 hcc hmc hxc
      go_enter Tryz.func98, Tryz.ntmps98
      go_upto_region 1 with fail
      rw [<- hw1]
      clear hw1
      go_wp2_with fail
      refine hcl.mono ?_
      rintro e w1' ⟨rfl, rfl⟩
      go_wp2_with fail
      refine (hf _).mono ?_
      clear s0 s1 s2 s3 s4 s5 s6 s7 s8 s9 s10 s11 s12 s13 s14 s15 s16 p3 hcell hcl
      rintro e w2 ⟨rfl, hb2⟩
      have hB2 := below_nx hB1 hb2 (Nat.le_refl _)
      have hR := EnNew.one w2 (faultE t (-1) 141)
      have hB3 := Mch.Below.al hB2 hB2.size (.cells (enA (faultE t (-1) 141)) 32)
      go_wp2_with fail
      go_ret
      rw [HC.out]
      exact ⟨_, rfl, hR.mono hB2.size, hB3⟩
    | false =>
      have HC : Hid (closeE M t x = ⟨0, 5, 0, t, 0, n, 0, 0, 0, 0, false, 0, 0⟩) := Lib.hid (by unfold closeE; rw [if_neg hn, <- hmc, hcc, hxc]; rfl)
      rw [hcc] at hcl
      rw [hxc] at s15
      have hR := EnNew.one w1 ⟨0, 5, 0, t, 0, n, 0, 0, 0, 0, false, 0, 0⟩
      have hB3 := Mch.Below.al hB1 hB1.size (.cells (enA ⟨0, 5, 0, t, 0, n, 0, 0, 0, 0, false, 0, 0⟩) 32)
      clear h hc hS1 h1 hch hcA hn hc2 hcc hmc hxc
      go_enter Tryz.func98, Tryz.ntmps98
      go_upto_region 1 with fail
      rw [<- hw1]
      clear hw1
      go_wp2_with fail
      refine hcl.mono ?_
      rintro e w1' ⟨rfl, rfl⟩
      go_wp2_with fail
      go_ret
      rw [HC.out]
      exact ⟨_, rfl, hR.mono hB1.size, hB3⟩
theorem spawns_any {o : Nat -> Nat} {B : Nat} {M : Mod} (t : Int) (f : Fra) (x : In) (w : World) (h : Md w o B M) (hT : M.T.length <= 1000) :
    Calls Tryz.prog 99 #[stdV B t f x] w fun e w' => ∃ v, e = .returned v /\ EnNew w.heap.size w' v [spawnE M t x] /\ Below w.heap.size w w' := by
  obtain ⟨w1, hw1⟩ : ∃ w1, w1 = w.alloc (.cells (stdA B t f x) 90) := ⟨_, rfl⟩
  have hB1 : Below w.heap.size w w1 := by rw [hw1]; exact below1 w _
  have hS1 : StAt w1 w.heap.size B t f x := by rw [hw1]; exact blk_new w _ _
  have h1 := h.below hB1
  have hta := tasks_any w1 h1 hT
  obtain ⟨s0, s1, s2, s3, s4, s5, s6, s7, s8, s9, s10, s11, s12, s13, s14, s15, s16⟩ := std_cells (show StAt w1 w.heap.size B t f x from hS1)
  go_enter Tryz.func99, Tryz.ntmps99
  go_upto_region 1 with fail
  rw [<- hw1]
  clear hw1
  go_wp2_with fail
  refine hta.mono ?_
  clear s0 s1 s2 s3 s4 s5 s6 s7 s8 s9 s10 s11 s12 s13 s14 s15 s16 hta
  rintro e w2 ⟨rfl, hb2⟩
  have hB2 := below_nx hB1 hb2 (Nat.le_refl _)
  have hS2 := Blk.later hS1 hb2 hS1.lt
  have h2 := h.below hB2
  obtain ⟨s0, s1, s2, s3, s4, s5, s6, s7, s8, s9, s10, s11, s12, s13, s14, s15, s16⟩ := std_cells (show StAt w2 w.heap.size B t f x from hS2)
  obtain ⟨lo, hi, v1, v2, v3, vT, vC, Cs, h3⟩ := h2
  have p3 := h3.mst
  by_cases hm : M.most <= M.T.length
  · have HC : Hid (spawnE M t x = faultE t (-1) 143) := Lib.hid (by unfold spawnE; rw [if_pos hm])
    have hf := fun W => fault_any t (-1) 143 W
    have hd : (M.most : Int) <= (M.T.length : Int) := by omega
    clear h h1 h3 hS1 hS2 hm
    go_wp2_with fail
    refine (hf _).mono ?_
    clear s0 s1 s2 s3 s4 s5 s6 s7 s8 s9 s10 s11 s12 s13 s14 s15 s16 p3
    rintro e w3 ⟨rfl, hb3⟩
    have hB3 := below_nx hB2 hb3 (Nat.le_refl _)
    have hR := EnNew.one w3 (faultE t (-1) 143)
    have hB4 := Mch.Below.al hB3 hB3.size (.cells (enA (faultE t (-1) 143)) 32)
    go_wp2_with fail
    go_ret
    rw [HC.out]
    exact ⟨_, rfl, hR.mono hB3.size, hB4⟩
  · have HC : Hid (spawnE M t x = ⟨0, 9, 0, t, M.T.length, 0, x.k, 0, 0, 0, false, 0, 0⟩) := Lib.hid (by unfold spawnE; rw [if_neg hm])
    have hd : ¬ (M.most : Int) <= (M.T.length : Int) := by omega
    have hR := EnNew.one w2 ⟨0, 9, 0, t, M.T.length, 0, x.k, 0, 0, 0, false, 0, 0⟩
    have hB3 := Mch.Below.al hB2 hB2.size (.cells (enA ⟨0, 9, 0, t, M.T.length, 0, x.k, 0, 0, 0, false, 0, 0⟩) 32)
    clear h h1 h3 hS1 hS2 hm
    go_wp2_with fail
    go_ret
    rw [HC.out]
    exact ⟨_, rfl, hR.mono hB2.size, hB3⟩
end Go.Proofs.YtdijhgaaeifbfaaGreat.Mdl
