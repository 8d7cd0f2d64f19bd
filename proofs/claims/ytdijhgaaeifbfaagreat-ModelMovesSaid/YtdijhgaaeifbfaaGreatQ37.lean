/-
  ModelMoves: its walks, part 37: DSpawn DDeeds3 DBlock.
-/
import Derived.Test.YtdijhgaaeifbfaaGreatQ00
import Derived.Test.YtdijhgaaeifbfaaGreatQ33
import Derived.Test.YtdijhgaaeifbfaaGreatQ36
set_option maxRecDepth 100000
set_option maxHeartbeats 12800000
namespace Go.Proofs.YtdijhgaaeifbfaaGreat.Mdl
open Go.RowKit
open Ent (En)
open Mch (Chn Frm Fw Fl below1 below_nx owns_slice' boxed_below)
section
variable {o : Nat -> Nat} {B : Nat} {M : Mod} {t : Int} {x : En}
theorem infoPla : (Tryz.prog.info? 52).map (fun i => (i.zero, i.size, i.bytes)) = some (some (.agg #[.int .u8 0, .int .i64 0, .int .i64 0, .int .i64 0, .int .i64 0, .int .i64 0, .int .i64 0, .int .i64 0, .int .i64 0, .int .i64 0, .int .i64 0]), 11, 88) := by kernel_rfl
theorem flatP_snoc (xs : List Pla) (x : Pla) : flatP (xs ++ [x]) = flatP xs ++ x.cellsL := by simp [flatP]
theorem MdAt.more {W w1 : World} {lo hi : Nat} {v1 v2 v3 vT vC vT' : Value} {Cs : List Nat} {tmp : Obj} (h : MdAt W o B lo hi v1 v2 v3 vT vC Cs M) (y : Pla) (hg : (W.alloc tmp).drew.grownBy w1 vT.ownBlock)
    (hown : w1.ownsRow 0 52 11 vT' (M.T.length + 1) (flatP M.T ++ y.cellsL)) (hat : vT'.ownBlock = vT.ownBlock \/ vT'.ownBlock = some (W.alloc tmp).drew.heap.size) :
    ∃ o', MdAt (w1.setCell ⟨B, 4, none⟩ vT') o' B lo hi v1 v2 v3 vT' vC Cs { M with T := M.T ++ [y] } /\ Goes o o' W (w1.setCell ⟨B, 4, none⟩ vT') := by
  have hs : (W.alloc tmp).drew.heap.size = W.heap.size + 1 := World.size_alloc W tmp
  have hF1 : Frm (fun k => o k = 3) W w1 := Mch.Frm.trans_new (Frm.of_below (below1 W tmp).drew _) (Frm.of_grown (F := fun k => o k = 3) hg (fun g e => h.town g e)) (fun i hi => .inl hi)
  have hF2 : Frm (fun k => o k = 3 \/ o k = 1) W (w1.setCell ⟨B, 4, none⟩ vT') := Mch.Frm.trans_new (hF1.mono (fun _ e => .inl e)) (Mch.Frm.set (F := fun k => o k = 3 \/ o k = 1) (p := ⟨B, 4, none⟩) w1 vT' (.inr h.hown)) (fun i hi => .inl hi)
  have hsz : W.heap.size + 1 <= w1.heap.size := by rw [<- hs]; exact hg.size
  have hsz2 : (w1.setCell ⟨B, 4, none⟩ vT').heap.size = w1.heap.size := by simp
  have hBl : B < W.heap.size := h.lt
  have hnb : vT'.ownBlock ≠ some B := fun e => by
    rcases hat with e1 | e1
    · have h3 := h.town B (e1.symm.trans e); rw [h.hown] at h3; cases h3
    · rw [e, hs] at e1; simp only [Option.some.injEq] at e1; omega
  have hlow : ∀ g, vT'.ownBlock = some g -> g < w1.heap.size := fun g e => by
    rcases hown.2 with ⟨rfl, _⟩ | ⟨g', cap, cur, rfl, _, hb, _⟩
    · simp [Value.ownBlock] at e
    · obtain rfl : g' = g := by simpa [Value.ownBlock] using e
      exact (Array.getElem?_eq_some_iff.1 hb).1
  refine ⟨newO o W (w1.setCell ⟨B, 4, none⟩ vT') 3, ?_, ⟨fun _ hk => newO_old hk, hF2.mono (fun k e => by rcases e with e | e <;> rw [e] <;> omega)⟩⟩
  have hhead : Blk w1 B 84 (mdCells v1 v2 v3 vT vC M) := (hF1.block B hBl (by rw [h.hown]; omega)).trans h.head
  exact {
    head := by have := hhead.set 4 vT'; simpa [mdCells] using this
    hown := by rw [newO_old hBl]; exact h.hown
    prog := keep_prog h.prog hF2 (fun k h1 h2 => by rw [h.pown k h1 h2]; omega)
    pown := fun k h1 h2 => by rw [newO_old (Nat.lt_of_lt_of_le h2 h.prog.top)]; exact h.pown k h1 h2
    tasks := by
      have h1 := hown.kept (Mch.grownBy_setCell w1 ⟨B, 4, none⟩ vT') (by
        cases e : vT'.ownBlock with
        | none => exact .inl rfl
        | some g => exact .inr (fun e2 => hnb (by rw [e, <- e2])))
      simp only [List.length_append, List.length_singleton, flatP_snoc]
      exact h1
    town := fun g e => by
      unfold newO
      split
      · rename_i hl
        rcases hat with e1 | e1
        · exact h.town g (e1.symm.trans e)
        · rw [e, hs] at e1; simp only [Option.some.injEq] at e1; omega
      · rw [if_pos (by rw [hsz2]; exact hlow g e)]
    chans := keep_row h.chans hF2 (fun g e => by rw [h.cown g e]; omega)
    cown := fun g e => by rw [newO_old (h.low g (by rw [h.cown g e]; omega))]; exact h.cown g e
    len := h.len
    chs := fun j C c hC hc => (keep_chn (h.chs j C c hC hc) hF2 (fun k hk => by rw [hk]; omega)).fl.mono (fun k hk => by rw [newO_old (h.low k (by rw [hk.1]; omega))]; exact hk.1)
    low := fun k hk => by
      unfold newO at hk
      split at hk
      · exact Nat.lt_of_lt_of_le (h.low k hk) hF2.size
      · split at hk
        · assumption
        · exact absurd rfl hk }
theorem spawnD_any (w : World) (h : Md w o B M) (hI : Inv M) (hx : MvOk M t x) (ht : 0 <= t /\ t < (M.T.length : Int)) (hk : x.k = 9) :
    Calls Tryz.prog 77 #[ptrV B, enV x] w (Deed o B (M.do_ x) w) := by
  obtain ⟨wa, hwa⟩ : ∃ wa, wa = w.alloc (.cells (enA x) 32) := ⟨_, rfl⟩
  have hBa : Below w.heap.size w wa := by rw [hwa]; exact below1 w _
  have hX : EnO wa o w.heap.size x := ⟨by rw [hwa]; exact blk_new w _ _, h.off (Nat.le_refl _)⟩
  have hh := h.below hBa
  have hxt := hx.tt
  have hxb : 0 <= x.t /\ x.t < (M.T.length : Int) := by rw [hxt]; exact ht
  obtain ⟨i0, hi, hz0, hz1, hz2⟩ := info_parts infoPla
  obtain ⟨F0, hF0⟩ : ∃ F0, F0 = M.where_ x.t := ⟨_, rfl⟩
  obtain ⟨F, hF⟩ : ∃ F, F = Fra.at0 x.b F0 := ⟨_, rfl⟩
  obtain ⟨N, hN⟩ : ∃ N : Mod, N = { M with T := M.T ++ [⟨1, F⟩] } := ⟨_, rfl⟩
  have hIN : Inv N := by rw [hN, hF, hF0]; exact hI.spawned (hx.s9 hk) _ (rok_at0 (hI.wfr _) _)
  have hTN : N.T.length = M.T.length + 1 := by rw [hN]; simp
  have h32 := hI.t32
  have HD : Hid (M.do_ x = N.goOn x.t (-1) 0 false) := Lib.hid (by unfold Mod.do_; simp only [hk]; rw [hN, hF, hF0])
  have hgo := fun (W : World) (o1 : Nat -> Nat) (h1 : Md W o1 B N) => sent_i x.t (-1) W h1 hIN (by rw [hTN]; omega)
  have hwh := fun W (hW : Below wa.heap.size wa W) => where_any x.t W (hh.below hW) (by omega) hI.chk hI.small hxb
  rw [<- hF0] at hwh
  have hsp := fun (W : World) => spawn_any F0 x.b W
  have hsp' : ∀ W : World, Calls Tryz.prog 52 #[fraV F0, .int .i64 x.b] W fun e w' => e = .returned (fraV F) /\ Below W.heap.size W w' := by rw [hF]; exact hsp
  have hkS : ∀ W, Below wa.heap.size wa W -> W.cell? ⟨w.heap.size, 3, none⟩ = some (.int .i64 x.t) /\ W.cell? ⟨w.heap.size, 6, none⟩ = some (.int .i64 x.b) /\ Below wa.heap.size wa W := fun W hW => ⟨(hX.below hW).c3, (hX.below hW).c6, hW⟩
  have r0 : Below wa.heap.size wa wa.drew := (Below.refl _ _).drew
  have r1 : Below wa.heap.size wa (wa.alloc (.cells #[.int .i64 0, .int .i64 0, .int .i64 0, .int .i64 0, .int .i64 0, .int .i64 0, .int .i64 0, .int .i64 0, .int .i64 0, .int .i64 0] 46)).drew := (below1 wa _).drew
  obtain ⟨k0, k1, -⟩ := hkS _ r0
  have hcl : ∀ (W : World) (A : Nat), Blk W A 46 #[.int .i64 0, .int .i64 0, .int .i64 0, .int .i64 0, .int .i64 0, .int .i64 0, .int .i64 0, .int .i64 0, .int .i64 0, .int .i64 0] -> (W.cell? ⟨A, 0, none⟩ = some (.int .i64 0) /\ W.cell? ⟨A, 1, none⟩ = some (.int .i64 0) /\ W.cell? ⟨A, 2, none⟩ = some (.int .i64 0) /\ W.cell? ⟨A, 3, none⟩ = some (.int .i64 0) /\ W.cell? ⟨A, 4, none⟩ = some (.int .i64 0) /\ W.cell? ⟨A, 5, none⟩ = some (.int .i64 0) /\ W.cell? ⟨A, 6, none⟩ = some (.int .i64 0) /\ W.cell? ⟨A, 7, none⟩ = some (.int .i64 0) /\ W.cell? ⟨A, 8, none⟩ = some (.int .i64 0) /\ W.cell? ⟨A, 9, none⟩ = some (.int .i64 0)) /\ (∀ j, W.frozen? ⟨A, j, none⟩ = false) := fun W A hA => ⟨⟨hA.cell rfl, hA.cell rfl, hA.cell rfl, hA.cell rfl, hA.cell rfl, hA.cell rfl, hA.cell rfl, hA.cell rfl, hA.cell rfl, hA.cell rfl⟩, hA.frozen⟩
  have hA0 : Blk (wa.alloc (.cells #[.int .i64 0, .int .i64 0, .int .i64 0, .int .i64 0, .int .i64 0, .int .i64 0, .int .i64 0, .int .i64 0, .int .i64 0, .int .i64 0] 46)).drew wa.heap.size 46 #[.int .i64 0, .int .i64 0, .int .i64 0, .int .i64 0, .int .i64 0, .int .i64 0, .int .i64 0, .int .i64 0, .int .i64 0, .int .i64 0] := blk_new wa _ _
  have hz1' : wa.heap.size < (wa.alloc (.cells #[.int .i64 0, .int .i64 0, .int .i64 0, .int .i64 0, .int .i64 0, .int .i64 0, .int .i64 0, .int .i64 0, .int .i64 0, .int .i64 0] 46)).drew.heap.size := hA0.lt
  obtain ⟨⟨a0, a1, a2, a3, a4, a5, a6, a7, a8, a9⟩, af⟩ := hcl _ _ hA0
  clear hk hxt hxb hx ht hI h hF hF0 hIN hTN hsp
  go_enter Tryz.func77, Tryz.ntmps77
  go_upto_region 1 with fail
  rw [<- hwa]
  clear hwa
  go_cut [4] from 4 to 11 (fun fv W => ∃ A, fv = ptrV A /\ FrAt W A F /\ Below wa.heap.size wa W)
  case first =>
    go_region_held3 (fun W => W.cell? ⟨w.heap.size, 3, none⟩ = some (.int .i64 x.t) /\ W.cell? ⟨w.heap.size, 6, none⟩ = some (.int .i64 x.b) /\ Below wa.heap.size wa W)
      ((refine hkS _ ?_; with_reducible first | exact r0 | exact r1 | exact hb3 | exact hb2 | exact Mch.Below.al hb3 hb3.size _ | exact Mch.Below.al hb2 hb2.size _ | exact hb3.trans ((sto10 hA3 _ _ _ _ _ _ _ _ _ _).2.below hb3.size (by first | (simp; done) | (simp; exact hb2.size)))))
      ((first
        | (go_at_call 115; refine (hwh _ r0).mono ?_; rintro e w2 ⟨rfl, hb2'⟩; have hb2 := r0.trans hb2'; obtain ⟨m0, m1, -⟩ := hkS _ hb2)
        | (go_at_call 115; refine (hwh _ r1).mono ?_; rintro e w2 ⟨rfl, hb2'⟩; have hb2 := r1.trans (hb2'.mono (Nat.le_of_lt hz1')); have hA2 := Blk.later hA0 hb2' hA0.lt; obtain ⟨m0, m1, -⟩ := hkS _ hb2)
        | (go_at_call 52; refine (hsp' _).mono ?_; rintro e w3 ⟨rfl, hb3'⟩; have hA3 := Blk.later hA2 hb3' hA2.lt; have hb3 := hb2.trans (hb3'.mono hb2.size); obtain ⟨⟨c0, c1, c2, c3, c4, c5, c6, c7, c8, c9⟩, cf⟩ := hcl _ _ hA3)
        | (go_at_call 52; refine (hsp' w2).mono ?_; rintro e w3 ⟨rfl, hb3'⟩; have hb3 := hb2.trans (hb3'.mono hb2.size))
        | (go_at_call 52; refine (hsp' _).mono ?_; rintro e w3 ⟨rfl, hb3'⟩; have hb3 := (Mch.Below.al hb2 hb2.size _).trans (hb3'.mono (Nat.le_trans hb2.size (by simp))); have hA3 := Blk.later (blk_new w2 46 #[.int .i64 0, .int .i64 0, .int .i64 0, .int .i64 0, .int .i64 0, .int .i64 0, .int .i64 0, .int .i64 0, .int .i64 0, .int .i64 0]) hb3' (by simp); obtain ⟨⟨c0, c1, c2, c3, c4, c5, c6, c7, c8, c9⟩, cf⟩ := hcl _ _ hA3)))
    all_goals go_wp2_with fail
    all_goals go_meet
    all_goals first
      | exact ⟨_, rfl, (sto10 hA3 _ _ _ _ _ _ _ _ _ _).1, hb3.trans ((sto10 hA3 _ _ _ _ _ _ _ _ _ _).2.below hb3.size (by first | (simp; done) | (simp; exact hb2.size)))⟩
      | exact ⟨_, rfl, blk_new w3 _ _, Mch.Below.al hb3 hb3.size _⟩
  case rest =>
    obtain ⟨A, rfl, hF, hB⟩ := hcut
    obtain ⟨w3, rfl⟩ : ∃ w3 : World, w3 = wc := ⟨_, rfl⟩
    clear a0 a1 a2 a3 a4 a5 a6 a7 a8 a9 af hA0 hz1' k0 k1 r0 r1 hkS hcl hwh hsp'
    obtain ⟨lo, hi', v1, v2, v3, vT, vC, Cs, hM⟩ := hh.below hB
    have hX3 := hX.below hB
    obtain ⟨va, vc, rfl⟩ := owns_slice' hM.tasks
    obtain ⟨n, hn⟩ : ∃ n, n = M.T.length := ⟨_, rfl⟩
    have hM' := hM
    have tk := hM.tk
    have hrow2 : (w3.alloc (.cells #[.int .u8 1, .int .i64 F.c, .int .i64 F.p, .int .i64 F.r0, .int .i64 F.r1, .int .i64 F.r2, .int .i64 F.r3, .int .i64 F.r4, .int .i64 F.r5, .int .i64 F.r6, .int .i64 F.r7] 52)).drew.ownsRow 0 52 11 (.slice va M.T.length vc) M.T.length (flatP M.T) := (hM.tasks.alloc _).drew
    have hBl := hM.lt
    have hfA := hF.lt
    obtain ⟨d0, d1, d2, d3, d4, d5, d6, d7, d8, d9⟩ := fra_cells hF
    obtain ⟨e0, e1, e2, e3, e4, e5, e6, e7, e8, e9⟩ := fra_cells (show FrAt w3.drew A F from hF)
    have tkd : w3.drew.cell? ⟨B, 4, none⟩ = some (.slice va M.T.length vc) := tk
    have hone : ∀ u ∈ Pla.cellsL ⟨1, F⟩, u.oneCell' = true := by simpa [flatP] using pla_one [⟨1, F⟩]
    have hcl2 : ∀ (j : Nat) (u : Value), (Pla.cellsL ⟨1, F⟩)[j]? = some u -> (w3.alloc (.cells #[.int .u8 1, .int .i64 F.c, .int .i64 F.p, .int .i64 F.r0, .int .i64 F.r1, .int .i64 F.r2, .int .i64 F.r3, .int .i64 F.r4, .int .i64 F.r5, .int .i64 F.r6, .int .i64 F.r7] 52)).drew.cell? (Addr.add ⟨w3.heap.size, 0, none⟩ j) = some u := fun j u hj => by
      rw [add0]; exact Blk.cell (blk_new w3 52 #[.int .u8 1, .int .i64 F.c, .int .i64 F.p, .int .i64 F.r0, .int .i64 F.r1, .int .i64 F.r2, .int .i64 F.r3, .int .i64 F.r4, .int .i64 F.r5, .int .i64 F.r6, .int .i64 F.r7]) (by simpa [Pla.cellsL] using hj)
    have hbk : ∀ w1, (w3.alloc (.cells #[.int .u8 1, .int .i64 F.c, .int .i64 F.p, .int .i64 F.r0, .int .i64 F.r1, .int .i64 F.r2, .int .i64 F.r3, .int .i64 F.r4, .int .i64 F.r5, .int .i64 F.r6, .int .i64 F.r7] 52)).drew.grownBy w1 (Value.slice va M.T.length vc).ownBlock -> Blk w1 B 84 (mdCells v1 v2 v3 (.slice va M.T.length vc) vC M) := fun w1 hg => by
      refine (hg.block B (Nat.lt_of_lt_of_le hBl (by show _ <= (w3.alloc (.cells #[.int .u8 1, .int .i64 F.c, .int .i64 F.p, .int .i64 F.r0, .int .i64 F.r1, .int .i64 F.r2, .int .i64 F.r3, .int .i64 F.r4, .int .i64 F.r5, .int .i64 F.r6, .int .i64 F.r7] 52)).heap.size; simp)) (fun e => by have h1 := hM.town B e.symm; rw [hM.hown] at h1; cases h1)).trans ?_
      exact (hM.head.alloc _)
    have tkA : (w3.alloc (.cells #[.int .u8 1, .int .i64 F.c, .int .i64 F.p, .int .i64 F.r0, .int .i64 F.r1, .int .i64 F.r2, .int .i64 F.r3, .int .i64 F.r4, .int .i64 F.r5, .int .i64 F.r6, .int .i64 F.r7] 52)).drew.cell? ⟨B, 4, none⟩ = some (.slice va M.T.length vc) := (hM.head.alloc _).cell rfl
    clear hX hn
    go_upto_region 2 with fail
    go_region_law (first
      | (refine step_append_at rfl (.tmp 16) (.tmp 19) 81 rfl 0 52 i0 (.agg #[.int .u8 0, .int .i64 0, .int .i64 0, .int .i64 0, .int .i64 0, .int .i64 0, .int .i64 0, .int .i64 0, .int .i64 0, .int .i64 0, .int .i64 0]) 11 88 Tryz.underlying81 hi hz0 hz1 hz2 rfl (by decide) (.slice va M.T.length vc) M.T.length (flatP M.T) rfl hrow2 ⟨w3.heap.size, 0, none⟩ 1 1 (Pla.cellsL ⟨1, F⟩) rfl rfl hcl2 hone (by unfold maxLen; omega) (by omega) (Nat.zero_le _) ?_
         intro v4 w4 hown4 hg4 hat4
         obtain ⟨g4, cap4, rfl⟩ := ownsRow_succ hown4
         have hv4 := (hbk w4 hg4).cell (k := 4) (v := .slice va M.T.length vc) rfl
         have hf4 := (hbk w4 hg4).frozen))
    all_goals
      obtain ⟨o2, hM4, hg5⟩ := hM.more ⟨1, F⟩ hg4 hown4 hat4
      rw [<- hN] at hM4
      have hX4 := hX3.goes hg5
      have hgo' := hgo _ o2 ⟨_, _, _, _, _, _, _, _, hM4⟩
      have hG := (Goes.of_below (hBa.trans (hB.mono hBa.size))).trans hg5
      clear hM4 hg5 hM hM' hrow2 hcl2 hbk tkA hown4 hg4 hat4 hN hgo tk tkd d0 d1 d2 d3 d4 d5 d6 d7 d8 d9 e0 e1 e2 e3 e4 e5 e6 e7 e8 e9 hv4 hf4
      generalize w4.setCell ⟨B, 4, none⟩ (.slice (some ⟨g4, 0, none⟩) (M.T.length + 1) cap4) = w5 at hgo' hX4 hG ⊢
      have s3 := hX4.c3
      go_wp2_with fail
      refine hgo'.mono ?_
      rintro e w6 ⟨rfl, o6, k6, j6⟩
      go_wp2_with fail
      go_end0
      rw [HD.out]
      exact ⟨rfl, _, k6, hG.trans j6⟩
end
open Go.RowKit
open Ent (En)
open Mch (Chn Frm Fw Fl below1 below_nx owns_slice' boxed_below)
section
variable {o : Nat -> Nat} {B : Nat} {M : Mod} {t : Int} {x : En}
theorem kept11 {W : World} {g k A j : Nat} {c0 c1 c2 c3 c4 c5 c6 c7 c8 c9 c10 v : Value} (hA : A ≠ g) (h : W.cell? ⟨A, j, none⟩ = some v) : ((((((((((((W.setCell ⟨g, k, none⟩ c0).setCell ⟨g, k + 1, none⟩ c1).setCell ⟨g, k + 2, none⟩ c2).setCell ⟨g, k + 3, none⟩ c3).setCell ⟨g, k + 4, none⟩ c4).setCell ⟨g, k + 5, none⟩ c5).setCell ⟨g, k + 6, none⟩ c6).setCell ⟨g, k + 7, none⟩ c7).setCell ⟨g, k + 8, none⟩ c8).setCell ⟨g, k + 9, none⟩ c9).setCell ⟨g, k + 10, none⟩ c10)).cell? ⟨A, j, none⟩ = some v := by
  rw [put11]
  refine (World.cell?_of_block ?_).trans h
  by_cases hl : A < W.heap.size
  · exact (putFrom_frm (F := fun j => j = g) rfl _ _ _).block A hl hA
  · have h1 : W.heap[A]? = none := Array.getElem?_eq_none (by omega)
    have h2 : (putFrom W g k [c0, c1, c2, c3, c4, c5, c6, c7, c8, c9, c10]).heap.size = W.heap.size := by simp [putFrom]
    rw [h1]; exact Array.getElem?_eq_none (by show _ <= A; omega)
theorem MdAt.cells11 {W : World} {lo hi g cap i : Nat} {v1 v2 v3 vC : Value} {Cs : List Nat} {y : Pla} {n : Nat} (h : MdAt W o B lo hi v1 v2 v3 (.slice (some ⟨g, 0, none⟩) n cap) vC Cs M) (hy : M.T[i]? = some y) : (W.cell? ⟨g, i * 11, none⟩ = some (.int .u8 (y.s : Int)) /\ W.cell? ⟨g, i * 11 + 1, none⟩ = some (.int .i64 y.f.c) /\ W.cell? ⟨g, i * 11 + 2, none⟩ = some (.int .i64 y.f.p) /\ W.cell? ⟨g, i * 11 + 3, none⟩ = some (.int .i64 y.f.r0) /\ W.cell? ⟨g, i * 11 + 4, none⟩ = some (.int .i64 y.f.r1) /\ W.cell? ⟨g, i * 11 + 5, none⟩ = some (.int .i64 y.f.r2) /\ W.cell? ⟨g, i * 11 + 6, none⟩ = some (.int .i64 y.f.r3) /\ W.cell? ⟨g, i * 11 + 7, none⟩ = some (.int .i64 y.f.r4) /\ W.cell? ⟨g, i * 11 + 8, none⟩ = some (.int .i64 y.f.r5) /\ W.cell? ⟨g, i * 11 + 9, none⟩ = some (.int .i64 y.f.r6) /\ W.cell? ⟨g, i * 11 + 10, none⟩ = some (.int .i64 y.f.r7) /\ (∀ k, W.frozen? ⟨g, k, none⟩ = false)) := by
  obtain ⟨g', cap', hv, hc⟩ := h.place hy
  cases hv
  exact ⟨hc 0 _ rfl, hc 1 _ rfl, hc 2 _ rfl, hc 3 _ rfl, hc 4 _ rfl, hc 5 _ rfl, hc 6 _ rfl, hc 7 _ rfl, hc 8 _ rfl, hc 9 _ rfl, hc 10 _ rfl, owns_frozen h.tasks rfl⟩
theorem end_any (w : World) (h : Md w o B M) (hI : Inv M) (hx : MvOk M t x) (ht : 0 <= t /\ t < (M.T.length : Int)) (hk : x.k = 10) :
    Calls Tryz.prog 78 #[ptrV B, enV x] w (Deed o B (M.do_ x) w) := by
  obtain ⟨wa, hwa⟩ : ∃ wa, wa = w.alloc (.cells (enA x) 32) := ⟨_, rfl⟩
  have hBa : Below w.heap.size w wa := by rw [hwa]; exact below1 w _
  have hX : EnO wa o w.heap.size x := ⟨by rw [hwa]; exact blk_new w _ _, h.off (Nat.le_refl _)⟩
  have hh := h.below hBa
  have hxt := hx.tt
  have hxb : 0 <= x.t /\ x.t < (M.T.length : Int) := by rw [hxt]; exact ht
  obtain ⟨i, hi⟩ : ∃ i : Nat, (i : Int) = x.t := ⟨x.t.toNat, by omega⟩
  have hiT : i < M.T.length := by omega
  obtain ⟨y, hy⟩ : ∃ y, M.T[i]? = some y := ⟨_, List.getElem?_eq_getElem hiT⟩
  obtain ⟨F, hF⟩ : ∃ F, F = M.where_ x.t := ⟨_, rfl⟩
  have HD : Hid (M.do_ x = { M with T := M.T.set i ⟨3, F⟩ }) := Lib.hid (by unfold Mod.do_; simp only [hk]; rw [hF, <- hi]; unfold Mod.setT; rw [Int.toNat_natCast])
  have hwh := fun W (hW : Below wa.heap.size wa W) => where_any x.t W (hh.below hW) (by have := hI.t32; omega) hI.chk hI.small hxb
  rw [<- hF, <- hi] at hwh
  obtain ⟨lo, hi', v1, v2, v3, vT, vC, Cs, hM⟩ := hh
  obtain ⟨g, cap, rfl, -⟩ := hM.place hy
  have hkS : ∀ W, Below wa.heap.size wa W -> W.cell? ⟨w.heap.size, 3, none⟩ = some (.int .i64 (i : Int)) /\ W.cell? ⟨B, 4, none⟩ = some (.slice (some ⟨g, 0, none⟩) M.T.length cap) := fun W hW => ⟨by rw [hi]; exact (hX.below hW).c3, (hM.below hW).tk⟩
  have hne : w.heap.size ≠ g := fun e => by have h1 := hM.town g rfl; have h2 := hX.2; rw [e, h1] at h2; cases h2
  have hnB : B ≠ g := fun e => by have h1 := hM.town g rfl; have h2 := hM.hown; rw [e, h1] at h2; cases h2
  have r0 : Below wa.heap.size wa wa.drew := (Below.refl _ _).drew
  obtain ⟨e3, e4⟩ := hkS _ r0
  have q0 : (0 : Int) <= (i : Int) := by omega
  have q1 : (i : Int) < (M.T.length : Int) := by omega
  clear hk hxt hxb hx ht hI h hF hi hX
  go_enter Tryz.func78, Tryz.ntmps78
  go_upto_region 1 with fail
  rw [<- hwa]
  clear hwa
  go_region_held3 (fun W => W.cell? ⟨w.heap.size, 3, none⟩ = some (.int .i64 (i : Int)) /\ W.cell? ⟨B, 4, none⟩ = some (.slice (some ⟨g, 0, none⟩) M.T.length cap))
    (with_reducible first | exact hkS _ hb2 | exact ⟨e3, e4⟩ | exact ⟨kept11 hne (hkS _ hb2).1, kept11 hnB (hkS _ hb2).2⟩)
    ((go_at_call 115; refine (hwh _ r0).mono ?_; rintro e w2 ⟨rfl, hb2'⟩; have hb2 := r0.trans hb2'; obtain ⟨pz, p1, p2, p3, p4, p5, p6, p7, p8, p9, p10, pf⟩ := (hM.below hb2).cells11 hy))
  rw [put11]
  obtain ⟨hT1, hF1⟩ := (hM.below hb2).tasked hiT ⟨3, F⟩ rfl
  have hg : Goes o o w (putFrom w2 g (i * 11) (Pla.cellsL ⟨3, F⟩)) := (Goes.of_below (hBa.trans (hb2.mono hBa.size))).trans (Goes.of_frm hF1 (fun k e => by rw [e]; omega))
  go_end0
  rw [HD.out]
  exact ⟨rfl, _, ⟨_, _, _, _, _, _, _, _, hT1⟩, hg⟩
end
open Go.RowKit
open Ent (En)
open Mch (Wt)
open Mch (Chn Frm Fw Fl below1 below_nx owns_slice' boxed_below)
section
variable {o : Nat -> Nat} {B : Nat} {M : Mod} {t : Int} {x : En}
theorem not_ready (h : Inv M) {l : List Opn} (hc : commits M t l = []) {q : Opn} (hm : q ∈ l) : q.c = -1 \/ ((q.s = true -> (M.ch q.c).buf.length = (M.ch q.c).m) /\ (q.s = false -> (M.ch q.c).buf = [])) := by
  by_cases hc1 : q.c = -1
  · exact .inl hc1
  · refine .inr ?_
    have hnr : ready M q = false := by
      cases hr : ready M q with
      | false => rfl
      | true =>
        have : moveE t q (M.ch q.c) ∈ commits M t l := List.mem_map.2 ⟨q, List.mem_filter.2 ⟨hm, hr⟩, rfl⟩
        rw [hc] at this; cases this
    have h6 : (M.ch q.c).what q.s = 6 := by
      unfold ready at hnr
      simp only [Bool.and_eq_false_imp, bne_iff_ne, ne_eq, hc1, not_false_eq_true, forall_const, bne_eq_false_iff_eq] at hnr
      exact hnr
    exact (what_six (h.chan q.c) h6).2
theorem blk_goes {W W' : World} {o o' : Nat -> Nat} {A : Nat} {ty : TypeId} {cs : Array Value} (h : Blk W A ty cs) (hA : o A = 0) (hg : Goes o o' W W') : Blk W' A ty cs := (hg.frm.block A h.lt (fun e => e hA)).trans h
theorem take_fold (t : Int) (N : Mod) {l : List Opn} {k : Nat} {q : Opn} (h : l[k]? = some q) : (l.take (k + 1)).foldl (waitAt t) N = waitAt t ((l.take k).foldl (waitAt t) N) q := by
  rw [take_snoc' l h, List.foldl_append]; rfl
theorem block_any (w : World) (h : Md w o B M) (hI : Inv M) (hx : MvOk M t x) (ht : 0 <= t /\ t < (M.T.length : Int)) (hk : x.k = 8) :
    Calls Tryz.prog 76 #[ptrV B, enV x] w (Deed o B (M.do_ x) w) := by
  obtain ⟨wa, hwa⟩ : ∃ wa, wa = w.alloc (.cells (enA x) 32) := ⟨_, rfl⟩
  have hBa : Below w.heap.size w wa := by rw [hwa]; exact below1 w _
  have hX : EnO wa o w.heap.size x := ⟨by rw [hwa]; exact blk_new w _ _, h.off (Nat.le_refl _)⟩
  have hh := h.below hBa
  have hxt := hx.tt
  have hxb : 0 <= x.t /\ x.t < (M.T.length : Int) := by rw [hxt]; exact ht
  have hst := hx.st (.inr hk)
  obtain ⟨ho, hcm⟩ := hx.s8 hk
  rw [<- hxt] at hst ho hcm
  obtain ⟨ha, -⟩ := does_at hI.chk hst
  have hTr0 := tries_in hI.chk hI.cl (hI.sfr x.t) ha ho
  have hops0 := tries_ok hI.chk hI.cl (hI.sfr x.t) ha ho
  obtain ⟨f, hf⟩ : ∃ f, f = (M.stand x.t).1 := ⟨_, rfl⟩
  obtain ⟨d, hd⟩ : ∃ d, d = M.does x.t := ⟨_, rfl⟩
  rw [<- hf, <- hd] at ha hTr0 hops0 hcm
  rw [<- hd] at ho
  have hst0 : M.stand x.t = (f, 0) := by rw [hf, <- hst]
  have hsa := standAt_ok x.t wa hh (by have := hI.t32; omega) hI.chk hI.small hst0 ha
  have hru := fun W => rule_any B x.t f d W (by omega) (by omega)
  obtain ⟨F2, hF2⟩ : ∃ F2, F2 = mayF B x.t f d d.o := ⟨_, rfl⟩
  have hrv : rulV B x.t f d d.o = .agg #[.func (.func (triesK d.o)) #[stdV B x.t f d] #[], F2] := by unfold rulV; rw [tryF_eq hTr0, hF2]
  simp only [hrv] at hru
  have htr := fun (W : World) (hW : Below wa.heap.size wa W) => tries_any x.t f d W (hh.below hW) hTr0
  have hlen := hTr0.len
  have HD : Hid (M.do_ x = ((tries M f d).foldl (waitAt x.t) M).setT x.t ⟨2, f⟩) := Lib.hid (by unfold Mod.do_; simp only [hk]; unfold Mod.block; rw [hf, hd])
  have hWk : ∀ k, Waits M (((tries M f d).take k).foldl (waitAt x.t) M) := fun k => Waits.fold hxb _ _ hI.waits (fun q hq => ⟨hops0 q (List.mem_of_mem_take hq), not_ready hI hcm (List.mem_of_mem_take hq)⟩)
  obtain ⟨L, hL⟩ : ∃ L, L = tries M f d := ⟨_, rfl⟩
  rw [<- hL] at hops0 hlen HD
  simp only [<- hL] at htr hWk
  obtain ⟨n, hn⟩ : ∃ n, n = L.length := ⟨_, rfl⟩
  rw [<- hn] at hlen
  simp only [<- hn] at htr
  have HN := Lib.hid hn
  obtain ⟨i, hi⟩ : ∃ i : Nat, (i : Int) = x.t := ⟨x.t.toNat, by omega⟩
  have hiT : i < M.T.length := by omega
  obtain ⟨y, hy⟩ : ∃ y, M.T[i]? = some y := ⟨_, List.getElem?_eq_getElem hiT⟩
  have hen := tries_enters d.o
  have qf : ∀ W : World, (Instr.field 96 (.agg #[.func (.func (triesK d.o)) #[stdV B x.t f d] #[], F2]) 0).run Tryz.prog W = .ok (.func (.func (triesK d.o)) #[stdV B x.t f d] #[]) W := fun W => rul_tries _ _ W
  obtain ⟨KF, hKF⟩ : ∃ KF, KF = triesK d.o := ⟨_, rfl⟩
  rw [<- hKF] at hen
  simp only [<- hKF] at hru htr qf
  have e3 := hX.c3
  clear hk hxt hx ht h hst ho hcm ha hTr0 hf hd hst0 hF2 hrv hL hn hKF
  go_enter Tryz.func76, Tryz.ntmps76
  go_upto_region 1 with fail
  rw [<- hwa]
  clear hwa
  go_wp2_with fail
  refine hsa.mono ?_
  rintro e w2 ⟨rfl, hb2⟩
  go_upto_region 2 with fail
  obtain ⟨w3, hw3⟩ : ∃ w3, w3 = w2.alloc (.cells (stdA B x.t f d) 90) := ⟨_, rfl⟩
  have hb3 : Below wa.heap.size wa w3 := by rw [hw3]; exact Mch.Below.al hb2 hb2.size _
  have hS3 : StAt w3 w2.heap.size B x.t f d := by rw [hw3]; exact blk_new w2 _ _
  have hz3 : wa.heap.size <= w2.heap.size := hb2.size
  rw [<- hw3]
  obtain ⟨P, hP⟩ : ∃ P, P = w2.heap.size := ⟨_, rfl⟩
  rw [<- hP] at hS3 hz3 ⊢
  clear hw3 hP hb2 hsa e3
  have hP0 : o P = 0 := hh.off hz3
  obtain ⟨s0, s1, s2, s3, s4, s5, s6, s7, s8, s9, s10, s11, s12, s13, s14, s15, s16⟩ := std_cells (show StAt w3 P B x.t f d from hS3)
  go_wp2_with fail
  refine (hru _).mono ?_
  clear s0 s1 s2 s3 s4 s5 s6 s7 s8 s9 s10 s11 s12 s13 s14 s15 s16 hru
  rintro e w4 ⟨rfl, hb4⟩
  have hB4 := below_nx hb3 hb4 (Nat.le_refl _)
  have htc := htr w4 hB4
  have hS4 := Blk.later hS3 hb4 hS3.lt
  clear hS3 hb3 hb4 htr
  go_wp2_with fail
  refine htc.mono ?_
  clear htc qf
  rintro e w5 ⟨v3, rfl, hO5, hb5⟩
  have hB5 := below_nx hB4 hb5 (Nat.le_refl _)
  have hS5 := Blk.later hS4 hb5 hS4.lt
  have hX5 := hX.below hB5
  have hM5 := hh.below hB5
  have hO0 : ∀ g, v3.ownBlock = some g -> o g = 0 := fun g e => (hh.below hB4).off (Mch.owns_ge hO5 g e)
  have hG5 := Goes.of_below (o := o) (hBa.trans (hB5.mono hBa.size))
  clear hS4 hb5 hB4 hB5 hX hh hBa
  obtain ⟨oa, oc, rfl⟩ := owns_slice' hO5
  go_wp2_with fail
  go_loopw [20] (fun iv wr => ∃ k : Nat, k <= n /\ iv = .int .i64 (k : Int) /\ ∃ o1, Md wr o1 B ((L.take k).foldl (waitAt x.t) M) /\ Goes o o1 w5 wr) (fun iv _ => n - (intOf iv).toNat)
  case atStart => exact ⟨0, by omega, rfl, o, hM5, Goes.refl _ _⟩
  case round =>
    obtain ⟨k, hk, rfl, o1, hr, hgo⟩ := hrel
    have hXr := hX5.goes hgo
    by_cases hlt : k < n
    · have hlt' : (k : Int) < (n : Int) := by omega
      have q0 : (0 : Int) <= (k : Int) := by omega
      have hwr : IntKind.i64.wrap ((k : Int) + 1) = (k : Int) + 1 := by rw [IntKind.wrap_i64]; omega
      obtain ⟨q, hq⟩ : ∃ q, L[k]? = some q := ⟨_, List.getElem?_eq_getElem (by rw [<- HN.out]; exact hlt)⟩
      have hqo := hops0 q (List.mem_of_getElem? hq)
      have hOr := keep_row (Mch.owns_zero hO5) hgo.frm (fun g e hk => hk (hO0 g e))
      obtain ⟨qb, rfl, hcq⟩ := ops_at (by rw [<- HN.out]; exact hOr) hq
      have hWN := hWk k
      have hIN := hWN.inv hI
      have HT := Lib.hid (take_fold x.t M hq)
      obtain ⟨Nk, hNk⟩ : ∃ Nk, Nk = (L.take k).foldl (waitAt x.t) M := ⟨_, rfl⟩
      rw [<- hNk] at hr hWN hIN HT
      clear hNk hq hOr
      obtain ⟨qb', qs, qc, qv⟩ := q
      have c0 : wr.cell? ⟨qb, k * 4, none⟩ = some (.int .i64 qb') := by simpa using hcq 0 _ rfl
      have c1 : wr.cell? ⟨qb, k * 4 + 1, none⟩ = some (.bool qs) := hcq 1 _ rfl
      have c2 : wr.cell? ⟨qb, k * 4 + 2, none⟩ = some (.int .i64 qc) := hcq 2 _ rfl
      have c3 : wr.cell? ⟨qb, k * 4 + 3, none⟩ = some (.int .i64 qv) := hcq 3 _ rfl
      obtain ⟨w6, hw6⟩ : ∃ w6, w6 = wr.alloc (.cells (opA ⟨qb', qs, qc, qv⟩) 193) := ⟨_, rfl⟩
      have hb6 : Below wr.heap.size wr w6 := by rw [hw6]; exact below1 wr _
      have hQ6 : Blk w6 wr.heap.size 193 (opA ⟨qb', qs, qc, qv⟩) := by rw [hw6]; exact blk_new wr _ _
      have hQ0 : o1 wr.heap.size = 0 := hr.off (Nat.le_refl _)
      obtain ⟨Q, hQ⟩ : ∃ Q, Q = wr.heap.size := ⟨_, rfl⟩
      rw [<- hQ] at hQ6 hQ0
      clear hcq
      go_upto_region 5 with fail
      rw [<- hw6, <- hQ]
      clear hw6 hQ c0 c1 c2 c3
      have hM6 := hr.below hb6
      have hX6 := hXr.below hb6
      have hg6 := hgo.trans (Goes.of_below hb6)
      have c2 : w6.cell? ⟨Q, 2, none⟩ = some (.int .i64 qc) := Blk.cell hQ6 rfl
      by_cases hc1 : qc = -1
      · have HW : Hid ((L.take (k + 1)).foldl (waitAt x.t) M = Nk) := Lib.hid (by rw [HT.out]; unfold waitAt; rw [if_pos hc1])
        have t1 : (qc != -1) = false := by rw [hc1]; rfl
        have t2 : (qc == -1) = true := by rw [hc1]; rfl
        clear hqo hX6 hQ6
        rw [hc1] at c2
        clear hc1 t1 t2
        go_wp2_with fail
        go_roundw
        case rel => exact ⟨k + 1, by omega, by go_num, o1, by rw [HW.out]; exact hM6, hg6⟩
        case measure => simp [intOf]; omega
      · have hqc := hqo.c.resolve_left hc1
        obtain ⟨c, rfl⟩ : ∃ c : Nat, qc = (c : Int) := ⟨qc.toNat, by have : (0 : Int) <= qc := hqc.1; omega⟩
        have HW : Hid ((L.take (k + 1)).foldl (waitAt x.t) M = Nk.setC (c : Int) (Cha.wait qs ⟨x.t, qb', qv⟩)) := Lib.hid (by rw [HT.out]; unfold waitAt; rw [if_neg hc1])
        have hcl : c < Nk.C.length := by rw [hWN.len]; have : ((c : Int)) < (M.C.length : Int) := hqc.2; omega
        obtain ⟨C, g, cap, hser⟩ := hM6.chan_do hcl (fn := 114) (args := #[.bool qs, Wt.val ⟨x.t, qb', qv⟩]) (f := Cha.wait qs ⟨x.t, qb', qv⟩) (R := fun e => ∃ u, e = .returned u)
          (fun F C V hc => (await_any _ qs ⟨x.t, qb', qv⟩ V hc (by have := hIN.wl (c : Int); cases qs <;> simp [Mch.sel] <;> omega)).mono fun e w' ⟨v, h1, h2, h3⟩ => ⟨⟨_, h1⟩, h2, h3⟩)
        have r0 : Below w6.heap.size w6 w6.drew := (Below.refl _ _).drew
        obtain ⟨n5, ng, hcall⟩ := hser _ r0
        have hcall' : Calls Tryz.prog 114 #[ptrV C, .bool qs, .agg #[.int .i64 x.t, .int .i64 qb', .int .i64 qv]] w6.drew _ := hcall
        have hkS : ∀ W, Blk W Q 193 (opA ⟨qb', qs, (c : Int), qv⟩) -> EnO W o1 w.heap.size x \/ (∃ o2, EnO W o2 w.heap.size x) -> W.cell? ⟨B, 5, none⟩ = some (.slice (some ⟨g, 0, none⟩) Nk.C.length cap) -> W.cell? ⟨g, c, none⟩ = some (ptrV C) -> W.cell? ⟨Q, 0, none⟩ = some (.int .i64 qb') /\ W.cell? ⟨Q, 1, none⟩ = some (.bool qs) /\ W.cell? ⟨Q, 2, none⟩ = some (.int .i64 (c : Int)) /\ W.cell? ⟨Q, 3, none⟩ = some (.int .i64 qv) /\ W.cell? ⟨w.heap.size, 3, none⟩ = some (.int .i64 x.t) /\ W.cell? ⟨B, 5, none⟩ = some (.slice (some ⟨g, 0, none⟩) Nk.C.length cap) /\ W.cell? ⟨g, c, none⟩ = some (ptrV C) := fun W h1 h2 h3 h4 => ⟨h1.cell rfl, h1.cell rfl, h1.cell rfl, h1.cell rfl, by rcases h2 with h2 | ⟨_, h2⟩ <;> exact h2.c3, h3, h4⟩
        have e0 := hkS w6.drew (hQ6.later r0 hQ6.lt) (.inl (hX6.below r0)) n5 ng
        obtain ⟨z0, z1, z2, z3, z4, z5, z6⟩ := id e0
        have t1 : ((c : Int) != -1) = true := by simp
        have t2 : ¬ (c : Int) = -1 := hc1
        have u0 : (0 : Int) <= (c : Int) := by omega
        have u1 : (c : Int) < (Nk.C.length : Int) := by omega
        clear hqo hqc hcl hser hcall hc1 n5 ng
        go_upto_region 6 with fail
        go_region_held3 (fun W => W.cell? ⟨Q, 0, none⟩ = some (.int .i64 qb') /\ W.cell? ⟨Q, 1, none⟩ = some (.bool qs) /\ W.cell? ⟨Q, 2, none⟩ = some (.int .i64 (c : Int)) /\ W.cell? ⟨Q, 3, none⟩ = some (.int .i64 qv) /\ W.cell? ⟨w.heap.size, 3, none⟩ = some (.int .i64 x.t) /\ W.cell? ⟨B, 5, none⟩ = some (.slice (some ⟨g, 0, none⟩) Nk.C.length cap) /\ W.cell? ⟨g, c, none⟩ = some (ptrV C))
          (with_reducible first | exact f7 | exact e0)
          ((go_at_call 114; refine hcall'.mono ?_; rintro e w7 ⟨⟨u, rfl⟩, ⟨o2, h2, g2⟩, c5, c6⟩; have f7 := hkS w7 (blk_goes (hQ6.later r0 hQ6.lt) hQ0 g2) (.inr ⟨o2, (hX6.below r0).goes g2⟩) c5 c6))
        have hg7 := (hg6.trans (Goes.of_below r0)).trans g2
        clear hkS e0 f7 z0 z1 z2 z3 z4 z5 z6 c5 c6 hX6 hQ6 t1 t2 u0 u1 r0 hcall'
        go_wp2_with fail
        go_roundw
        case rel => exact ⟨k + 1, by omega, by go_num, o2, by rw [HW.out]; exact h2, hg7⟩
        case measure => simp [intOf]; omega
    · obtain rfl : k = n := by omega
      have hLk : L.take k = L := by rw [HN.out]; exact List.take_length
      have hWN := hWk k
      rw [hLk] at hr hWN
      obtain ⟨N, hN⟩ : ∃ N, N = L.foldl (waitAt x.t) M := ⟨_, rfl⟩
      rw [<- hN] at hr hWN HD
      have hTN : N.T = M.T := hWN.T
      have hSr := blk_goes hS5 hP0 hgo
      obtain ⟨lo, hi', v1, v2, v3', vT, vC, Cs, hM⟩ := hr
      have hyN : N.T[i]? = some y := by rw [hTN]; exact hy
      have hiN : i < N.T.length := by rw [hTN]; exact hiT
      obtain ⟨g, cap, rfl, -⟩ := hM.place hyN
      obtain ⟨pz, p1, p2, p3, p4, p5, p6, p7, p8, p9, p10, pf⟩ := hM.cells11 hyN
      have q0 : (0 : Int) <= (i : Int) := by omega
      have q1 : (i : Int) < (N.T.length : Int) := by omega
      have tk : wr.cell? ⟨B, 4, none⟩ = some (.slice (some ⟨g, 0, none⟩) N.T.length cap) := hM.tk
      have tkd : wr.drew.cell? ⟨B, 4, none⟩ = some (.slice (some ⟨g, 0, none⟩) N.T.length cap) := hM.tk
      have e3 : wr.drew.cell? ⟨w.heap.size, 3, none⟩ = some (.int .i64 (i : Int)) := by rw [hi]; exact hXr.c3
      obtain ⟨s0, s1, s2, s3, s4, s5, s6, s7, s8, s9, s10, s11, -⟩ := std_cells (show StAt wr.drew P B x.t f d from hSr)
      obtain ⟨hT1, hF1⟩ := hM.tasked hiN ⟨2, f⟩ rfl
      have hT2 := hT1.drew
      have hG : Goes o o1 w (putFrom wr g (i * 11) (Pla.cellsL ⟨2, f⟩)).drew := ((hG5.trans hgo).trans (Goes.of_frm hF1 (fun k e => by rw [e]; omega))).trans (Goes.of_below (Below.refl _ _).drew)
      have HD2 : Hid (M.do_ x = { N with T := N.T.set i ⟨2, f⟩ }) := Lib.hid (by rw [HD.out]; unfold Mod.setT; rw [<- hi, Int.toNat_natCast])
      clear hT1 hF1 hM hSr hXr hgo hG5 hN hTN hWN hWk hLk hy hyN hiN hiT HD hX5 hM5 hO5 hO0 hops0 hI hi
      go_upto_region 8 with fail
      go_region
      rw [put11]
      go_wp2_with fail
      go_end0
      rw [HD2.out]
      exact ⟨rfl, o1, ⟨_, _, _, _, _, _, _, _, hT2⟩, hG⟩
end
end Go.Proofs.YtdijhgaaeifbfaaGreat.Mdl
