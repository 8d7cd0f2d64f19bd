/-
  ModelMoves: its walks, part 23: MNone DMem DCatch.
-/
import Derived.Test.YtdijhgaaeifbfaaGreatQ00
import Derived.Test.YtdijhgaaeifbfaaGreatQ05
import Derived.Test.YtdijhgaaeifbfaaGreatQ15
import Derived.Test.YtdijhgaaeifbfaaGreatQ16
import Derived.Test.YtdijhgaaeifbfaaGreatQ20
import Derived.Test.YtdijhgaaeifbfaaGreatQ22
set_option maxRecDepth 100000
set_option maxHeartbeats 12800000
namespace Go.Proofs.YtdijhgaaeifbfaaGreat.Mch
open Go.RowKit
theorem serve_none {F : Nat -> Prop} {C m : Nat} {cl : Bool} {buf : List Int} {S R : List Wt} (s : Bool) (val : Int) (w : World) (h : Chn w F C m cl buf S R) (hlS : S.length <= 1000) (hlR : R.length <= 1000) (K : Nat) (hK : whatK cl m buf S R s = K) (hK1 : K = 1 \/ K = 6) :
    Calls Tryz.prog 109 #[.pointer (some ⟨C, 0, none⟩), .bool s, .int .i64 val] w fun e w' => e = .returned (.tuple #[Gt.val .zero, .int .i64 8]) /\ Chn w' (Fw F w) C m cl buf S R /\ Frm F w w' := by
  obtain ⟨wa, hwa⟩ : ∃ wa, wa = w.alloc (.cells #[.int .u8 0, .int .i64 0, .int .i64 0, .int .i64 0, .int .i64 0, .bool false, .int .i64 0] 184) := ⟨_, rfl⟩
  have hba : Below w.heap.size w wa := by rw [hwa]; exact below1 w _
  have hg : GtAt wa w.heap.size .zero := by rw [hwa]; exact gtAt_new w .zero
  have hs := hg.lt
  have ha := h.fl.below hba
  have hw : Calls Tryz.prog 136 #[.pointer (some ⟨C, 0, none⟩), .bool s] wa fun e w' => e = .returned (.int .u8 (K : Int)) /\ Below wa.heap.size wa w' := by
    obtain ⟨B, v0, v1, hat, -⟩ := ha.at
    have := what_any s wa hat hlS hlR
    rwa [hK] at this
  clear hK
  go_enter Tryz.func109, Tryz.ntmps109
  go_wp2_with fail
  rw [<- hwa]
  clear hwa
  refine hw.mono ?_
  clear hw
  rintro e w1 ⟨rfl, hb1⟩
  go_wp2_with fail
  refine (deeds_any C w1).mono ?_
  rintro e w2 ⟨rfl, hM, hb2⟩
  have hlook : (Instr.lookup 227 (.map (some w1.heap.size)) (.int .u8 (K : Int)) true).run Tryz.prog w2 = .ok (.tuple #[.agg #[.nilFunc, .nilFunc], .bool false]) w2 := hM.not (k := K) (by omega) (by omega)
  obtain ⟨w3, hw3⟩ : ∃ w3, w3 = w2.alloc (.cells #[.nilFunc, .nilFunc] 225) := ⟨_, rfl⟩
  have hb3 : Below wa.heap.size wa w3 := by rw [hw3]; exact Below.al (below_nx hb1 hb2 (Nat.le_refl _)) (below_nx hb1 hb2 (Nat.le_refl _)).size _
  have h3 := ha.below hb3
  have hg3 := hg.below hb3
  have hbw := below_nx hba hb3 (Nat.le_refl _)
  have hs3 : w.heap.size < w3.heap.size := hg3.lt
  clear hb1 hb2 hM
  have k2 := hg3
  have HE : Hid (Chn (put7 w3 w.heap.size .zero) (Fw F w) C m cl buf S R /\ Frm F w (put7 w3 w.heap.size .zero)) := Lib.hid ⟨((h3.put7 (fun e => by have := e.2; omega) .zero).mono (fun k e => .inl e.1)), (Frm.of_below hbw F).put7 (Nat.le_refl _) .zero⟩
  have z0 := k2.frozen 0
  have y0 := k2.c0
  have z1 := k2.frozen 1
  have y1 := k2.c1
  have z2 := k2.frozen 2
  have y2 := k2.c2
  have z3 := k2.frozen 3
  have y3 := k2.c3
  have z4 := k2.frozen 4
  have y4 := k2.c4
  have z5 := k2.frozen 5
  have y5 := k2.c5
  have z6 := k2.frozen 6
  have y6 := k2.c6
  rw [hw3] at z0 y0 z1 y1 z2 y2 z3 y3 z4 y4 z5 y5 z6 y6
  have k5 := k2.put7 .zero
  clear k2 hg hg3 h h3 ha hb3
  go_wp2_with fail
  rw [<- hw3]
  change bodyPost _ _ _ _ _ (put7 w3 w.heap.size .zero)
  generalize put7 w3 w.heap.size .zero = W5 at k5 HE ⊢
  have e0 : W5.cell? ⟨w.heap.size, 0, none⟩ = some (.int .u8 0) := k5.c0
  have e1 : W5.cell? ⟨w.heap.size, 1, none⟩ = some (.int .i64 0) := k5.c1
  have e2 : W5.cell? ⟨w.heap.size, 2, none⟩ = some (.int .i64 0) := k5.c2
  have e3 : W5.cell? ⟨w.heap.size, 3, none⟩ = some (.int .i64 0) := k5.c3
  have e4 : W5.cell? ⟨w.heap.size, 4, none⟩ = some (.int .i64 0) := k5.c4
  have e5 : W5.cell? ⟨w.heap.size, 5, none⟩ = some (.bool false) := k5.c5
  have e6 : W5.cell? ⟨w.heap.size, 6, none⟩ = some (.int .i64 0) := k5.c6
  refine bodyPost_ret (v := .tuple #[Gt.val .zero, .int .i64 8]) (by simp [results, Gt.val, Gt.zero, Wt.zero, Tryz.f109, go_sem, e0, e1, e2, e3, e4, e5, e6]) rfl ?_
  exact ⟨rfl, HE.out.1, HE.out.2⟩
end Go.Proofs.YtdijhgaaeifbfaaGreat.Mch
namespace Go.Proofs.YtdijhgaaeifbfaaGreat.Mdl
open Go.RowKit
open Ent (En)
open Mch (Wt Gt whatK putL Chn Frm Fw Fl)
def Pla.cellsL (x : Pla) : List Value := [.int .u8 (x.s : Int), .int .i64 x.f.c, .int .i64 x.f.p, .int .i64 x.f.r0, .int .i64 x.f.r1, .int .i64 x.f.r2, .int .i64 x.f.r3, .int .i64 x.f.r4, .int .i64 x.f.r5, .int .i64 x.f.r6, .int .i64 x.f.r7]
abbrev plaV (x : Pla) : Value := .agg #[.int .u8 (x.s : Int), .int .i64 x.f.c, .int .i64 x.f.p, .int .i64 x.f.r0, .int .i64 x.f.r1, .int .i64 x.f.r2, .int .i64 x.f.r3, .int .i64 x.f.r4, .int .i64 x.f.r5, .int .i64 x.f.r6, .int .i64 x.f.r7]
abbrev plaA (x : Pla) : Array Value := #[.int .u8 (x.s : Int), .int .i64 x.f.c, .int .i64 x.f.p, .int .i64 x.f.r0, .int .i64 x.f.r1, .int .i64 x.f.r2, .int .i64 x.f.r3, .int .i64 x.f.r4, .int .i64 x.f.r5, .int .i64 x.f.r6, .int .i64 x.f.r7]
abbrev PlAt (W : World) (B : Nat) (x : Pla) : Prop := Blk W B 52 (plaA x)
def flatP (T : List Pla) : List Value := T.flatMap Pla.cellsL
theorem pla_len (x : Pla) : x.cellsL.length = 11 := rfl
theorem flatP_len (T : List Pla) : (flatP T).length = T.length * 11 := flat_len Pla.cellsL 11 pla_len T
abbrev ptrV (C : Nat) : Value := .pointer (some ⟨C, 0, none⟩)
theorem pla_one (l : List Pla) : ∀ u ∈ flatP l, u.oneCell' = true := by
  intro u hu; obtain ⟨x, _, hu⟩ := List.mem_flatMap.1 hu
  simp only [Pla.cellsL, List.mem_cons, List.not_mem_nil, or_false] at hu
  rcases hu with rfl | rfl | rfl | rfl | rfl | rfl | rfl | rfl | rfl | rfl | rfl <;> rfl
theorem pla_cells {W : World} {B : Nat} {t : TypeId} {x : Pla} (h : Blk W B t (plaA x)) : W.cell? ⟨B, 0, none⟩ = some (.int .u8 (x.s : Int)) /\ W.cell? ⟨B, 1, none⟩ = some (.int .i64 x.f.c) /\ W.cell? ⟨B, 2, none⟩ = some (.int .i64 x.f.p) /\ W.cell? ⟨B, 3, none⟩ = some (.int .i64 x.f.r0) /\ W.cell? ⟨B, 4, none⟩ = some (.int .i64 x.f.r1) /\ W.cell? ⟨B, 5, none⟩ = some (.int .i64 x.f.r2) /\ W.cell? ⟨B, 6, none⟩ = some (.int .i64 x.f.r3) /\ W.cell? ⟨B, 7, none⟩ = some (.int .i64 x.f.r4) /\ W.cell? ⟨B, 8, none⟩ = some (.int .i64 x.f.r5) /\ W.cell? ⟨B, 9, none⟩ = some (.int .i64 x.f.r6) /\ W.cell? ⟨B, 10, none⟩ = some (.int .i64 x.f.r7) :=
  ⟨h.cell rfl, h.cell rfl, h.cell rfl, h.cell rfl, h.cell rfl, h.cell rfl, h.cell rfl, h.cell rfl, h.cell rfl, h.cell rfl, h.cell rfl⟩
def mdCells (v1 v2 v3 vT vC : Value) (M : Mod) : Array Value := #[v1, v2, v3, .int .i64 (M.most : Int), vT, vC, .int .i64 (M.K 0), .int .i64 (M.K 1), .int .i64 (M.K 2), .int .i64 (M.K 3), .int .i64 (M.K 4), .int .i64 (M.K 5), .int .i64 M.who, .int .i64 M.e]
structure MdAt (W : World) (o : Nat -> Nat) (B lo hi : Nat) (v1 v2 v3 vT vC : Value) (Cs : List Nat) (M : Mod) : Prop where
  head : Blk W B 84 (mdCells v1 v2 v3 vT vC M)
  hown : o B = 1
  prog : PrgAt lo hi W v1 v2 v3 M.p
  pown : ∀ k, lo <= k -> k < hi -> o k = 2
  tasks : W.ownsRow 0 52 11 vT M.T.length (flatP M.T)
  town : ∀ g, vT.ownBlock = some g -> o g = 3
  chans : W.ownsRow 0 63 1 vC Cs.length (Cs.map ptrV)
  cown : ∀ g, vC.ownBlock = some g -> o g = 4
  len : Cs.length = M.C.length
  chs : ∀ i C c, Cs[i]? = some C -> M.C[i]? = some c -> Chn W (fun k => o k = 5 + i) C c.m c.cl c.buf c.S c.R
  low : ∀ k, o k ≠ 0 -> k < W.heap.size
def Md (W : World) (o : Nat -> Nat) (B : Nat) (M : Mod) : Prop := ∃ lo hi v1 v2 v3 vT vC Cs, MdAt W o B lo hi v1 v2 v3 vT vC Cs M
section
variable {W W' : World} {o : Nat -> Nat} {B lo hi : Nat} {v1 v2 v3 vT vC : Value} {Cs : List Nat} {M : Mod}
theorem MdAt.lt (h : MdAt W o B lo hi v1 v2 v3 vT vC Cs M) : B < W.heap.size := h.head.lt
theorem MdAt.p1 (h : MdAt W o B lo hi v1 v2 v3 vT vC Cs M) : W.cell? ⟨B, 0, none⟩ = some (v1) := h.head.cell rfl
theorem MdAt.p2 (h : MdAt W o B lo hi v1 v2 v3 vT vC Cs M) : W.cell? ⟨B, 1, none⟩ = some (v2) := h.head.cell rfl
theorem MdAt.p3 (h : MdAt W o B lo hi v1 v2 v3 vT vC Cs M) : W.cell? ⟨B, 2, none⟩ = some (v3) := h.head.cell rfl
theorem MdAt.mst (h : MdAt W o B lo hi v1 v2 v3 vT vC Cs M) : W.cell? ⟨B, 3, none⟩ = some (.int .i64 (M.most : Int)) := h.head.cell rfl
theorem MdAt.tk (h : MdAt W o B lo hi v1 v2 v3 vT vC Cs M) : W.cell? ⟨B, 4, none⟩ = some (vT) := h.head.cell rfl
theorem MdAt.cn (h : MdAt W o B lo hi v1 v2 v3 vT vC Cs M) : W.cell? ⟨B, 5, none⟩ = some (vC) := h.head.cell rfl
theorem MdAt.k0 (h : MdAt W o B lo hi v1 v2 v3 vT vC Cs M) : W.cell? ⟨B, 6, none⟩ = some (.int .i64 (M.K 0)) := h.head.cell rfl
theorem MdAt.k1 (h : MdAt W o B lo hi v1 v2 v3 vT vC Cs M) : W.cell? ⟨B, 7, none⟩ = some (.int .i64 (M.K 1)) := h.head.cell rfl
theorem MdAt.k2 (h : MdAt W o B lo hi v1 v2 v3 vT vC Cs M) : W.cell? ⟨B, 8, none⟩ = some (.int .i64 (M.K 2)) := h.head.cell rfl
theorem MdAt.k3 (h : MdAt W o B lo hi v1 v2 v3 vT vC Cs M) : W.cell? ⟨B, 9, none⟩ = some (.int .i64 (M.K 3)) := h.head.cell rfl
theorem MdAt.k4 (h : MdAt W o B lo hi v1 v2 v3 vT vC Cs M) : W.cell? ⟨B, 10, none⟩ = some (.int .i64 (M.K 4)) := h.head.cell rfl
theorem MdAt.k5 (h : MdAt W o B lo hi v1 v2 v3 vT vC Cs M) : W.cell? ⟨B, 11, none⟩ = some (.int .i64 (M.K 5)) := h.head.cell rfl
theorem MdAt.wh (h : MdAt W o B lo hi v1 v2 v3 vT vC Cs M) : W.cell? ⟨B, 12, none⟩ = some (.int .i64 M.who) := h.head.cell rfl
theorem MdAt.er (h : MdAt W o B lo hi v1 v2 v3 vT vC Cs M) : W.cell? ⟨B, 13, none⟩ = some (.int .i64 M.e) := h.head.cell rfl
theorem MdAt.frozen (h : MdAt W o B lo hi v1 v2 v3 vT vC Cs M) (k : Nat) : W.frozen? ⟨B, k, none⟩ = false := h.head.frozen k
theorem MdAt.kk (h : MdAt W o B lo hi v1 v2 v3 vT vC Cs M) {i : Nat} (hi : i < 6) : W.cell? ⟨B, 6 + i, none⟩ = some (.int .i64 (M.K i)) := by
  have : i = 0 \/ i = 1 \/ i = 2 \/ i = 3 \/ i = 4 \/ i = 5 := by omega
  rcases this with rfl | rfl | rfl | rfl | rfl | rfl
  · exact h.k0
  · exact h.k1
  · exact h.k2
  · exact h.k3
  · exact h.k4
  · exact h.k5
theorem MdAt.below (h : MdAt W o B lo hi v1 v2 v3 vT vC Cs M) (hb : Below W.heap.size W W') : MdAt W' o B lo hi v1 v2 v3 vT vC Cs M where
  head := h.head.later hb h.head.lt
  hown := h.hown
  prog := h.prog.later hb
  pown := h.pown
  tasks := owns_fresh h.tasks hb
  town := h.town
  chans := owns_fresh h.chans hb
  cown := h.cown
  len := h.len
  chs := fun i C c hC hc => (h.chs i C c hC hc).below hb
  low := fun k hk => Nat.lt_of_lt_of_le (h.low k hk) hb.size
theorem MdAt.drew (h : MdAt W o B lo hi v1 v2 v3 vT vC Cs M) : MdAt W.drew o B lo hi v1 v2 v3 vT vC Cs M := h.below (Below.refl _ _).drew
theorem Md.below (h : Md W o B M) (hb : Below W.heap.size W W') : Md W' o B M := by
  obtain ⟨lo, hi, v1, v2, v3, vT, vC, Cs, h⟩ := h
  exact ⟨lo, hi, v1, v2, v3, vT, vC, Cs, h.below hb⟩
theorem keep_row {e : TypeId} {s n : Nat} {v : Value} {xs : List Value} {G : Nat -> Prop} (h : W.ownsRow 0 e s v n xs) (hF : Frm G W W') (hG : ∀ g, v.ownBlock = some g -> ¬ G g) : W'.ownsRow 0 e s v n xs := by
  refine ⟨h.1, ?_⟩
  rcases h.2 with h0 | ⟨g, cap, cur, rfl, hg, hb, r⟩
  · exact .inl h0
  · exact .inr ⟨g, cap, cur, rfl, hg, (hF.block g (Array.getElem?_eq_some_iff.1 hb).1 (hG g rfl)).trans hb, r⟩
theorem keep_chn {G F : Nat -> Prop} {C m : Nat} {cl : Bool} {buf : List Int} {S R : List Wt} (h : Chn W F C m cl buf S R) (hF : Frm G W W') (hG : ∀ g, F g -> ¬ G g) : Chn W' F C m cl buf S R := by
  obtain ⟨b, v0, v1, h, h1, h2, h3, h4⟩ := h
  obtain ⟨vs, f, hr, hl⟩ := h.ring
  exact ⟨b, v0, v1, ⟨(hF.block C h.lt (hG _ h1)).trans h.head, ⟨vs, f, hr.of_block (hF.block b hr.lt (hG _ h2)), hl⟩, keep_row h.sends hF (fun g e => hG _ (h3 g e)), keep_row h.recvs hF (fun g e => hG _ (h4 g e)), h.apart⟩, h1, h2, h3, h4⟩
theorem keep_prog {G : Nat -> Prop} {p : Prg} (h : PrgAt lo hi W v1 v2 v3 p) (hF : Frm G W W') (hG : ∀ k, lo <= k -> k < hi -> ¬ G k) : PrgAt lo hi W' v1 v2 v3 p :=
  h.stay (fun b h1 h2 => hF.block b (Nat.lt_of_lt_of_le h2 h.top) (hG b h1 h2)) (Nat.le_trans h.top hF.size)
theorem add0 (g k : Nat) : Addr.add ⟨g, 0, none⟩ k = ⟨g, k, none⟩ := by by_cases e : k = 0 <;> simp [Addr.add, e]
theorem MdAt.chan (h : MdAt W o B lo hi v1 v2 v3 vT vC Cs M) {i : Nat} (hi' : i < M.C.length) : ∃ C g cap, Cs[i]? = some C /\ vC = .slice (some ⟨g, 0, none⟩) Cs.length cap /\ W.cell? ⟨g, i, none⟩ = some (ptrV C) /\ Chn W (fun k => o k = 5 + i) C (M.ch i).m (M.ch i).cl (M.ch i).buf (M.ch i).S (M.ch i).R := by
  have hiC : i < Cs.length := by rw [h.len]; exact hi'
  have hC := List.getElem?_eq_getElem hiC
  have hc : M.C[i]? = some (M.ch i) := by unfold Mod.ch; rw [Int.toNat_natCast, List.getElem?_eq_getElem hi']; rfl
  rcases id h.chans.2 with ⟨_, h0⟩ | ⟨g, cap, cur, hv, _, _⟩
  · omega
  refine ⟨_, g, cap, hC, hv, ?_, h.chs i _ _ hC hc⟩
  have := h.chans.cells (g := g) (by rw [hv]; rfl) i (ptrV Cs[i]) (by rw [List.getElem?_map, hC]; rfl)
  rw [add0] at this
  exact this
theorem MdAt.place (h : MdAt W o B lo hi v1 v2 v3 vT vC Cs M) {i : Nat} {x : Pla} (hx : M.T[i]? = some x) : ∃ g cap, vT = .slice (some ⟨g, 0, none⟩) M.T.length cap /\ ∀ j u, x.cellsL[j]? = some u -> W.cell? ⟨g, i * 11 + j, none⟩ = some u := by
  have hi' := (List.getElem?_eq_some_iff.1 hx).1
  rcases id h.tasks.2 with ⟨_, h0⟩ | ⟨g, cap, cur, hv, _, _⟩
  · omega
  refine ⟨g, cap, hv, fun j u hj => ?_⟩
  have hj11 : j < 11 := by have := (List.getElem?_eq_some_iff.1 hj).1; simpa [pla_len] using this
  have := h.tasks.cells (g := g) (by rw [hv]; rfl) (i * 11 + j) u (by rw [flatP, flat_get Pla.cellsL 11 pla_len _ _ _ hj11, hx]; exact hj)
  rw [add0] at this
  exact this
end
structure Goes (o o' : Nat -> Nat) (w w' : World) : Prop where
  old : ∀ k, k < w.heap.size -> o' k = o k
  frm : Frm (fun k => o k ≠ 0) w w'
theorem Goes.refl (o : Nat -> Nat) (w : World) : Goes o o w w := ⟨fun _ _ => rfl, Frm.refl _ _⟩
theorem Goes.trans {o o1 o2 : Nat -> Nat} {w w1 w2 : World} (h : Goes o o1 w w1) (k : Goes o1 o2 w1 w2) : Goes o o2 w w2 :=
  ⟨fun i hi => (k.old i (Nat.lt_of_lt_of_le hi h.frm.size)).trans (h.old i hi), Mch.Frm.trans_new h.frm k.frm (fun i hi => by
    by_cases hl : i < w.heap.size
    · exact .inl (by rw [<- h.old i hl]; exact hi)
    · exact .inr (by omega))⟩
theorem Goes.of_below {o : Nat -> Nat} {w w' : World} (h : Below w.heap.size w w') : Goes o o w w' := ⟨fun _ _ => rfl, Frm.of_below h _⟩
theorem Goes.of_frm {o : Nat -> Nat} {w w' : World} {G : Nat -> Prop} (h : Frm G w w') (hG : ∀ k, G k -> o k ≠ 0) : Goes o o w w' := ⟨fun _ _ => rfl, h.mono hG⟩
def newO (o : Nat -> Nat) (w w' : World) (q : Nat) : Nat -> Nat := fun k => if k < w.heap.size then o k else if k < w'.heap.size then q else 0
section
variable {W W' : World} {o : Nat -> Nat} {B lo hi : Nat} {v1 v2 v3 vT vC : Value} {Cs : List Nat} {M : Mod}
theorem newO_old {q k : Nat} (h : k < W.heap.size) : newO o W W' q k = o k := by simp [newO, h]
theorem MdAt.channed (h : MdAt W o B lo hi v1 v2 v3 vT vC Cs M) {i C : Nat} {c : Cha} (hC : Cs[i]? = some C) (hc : Chn W' (Fw (fun k => o k = 5 + i) W) C c.m c.cl c.buf c.S c.R) (hF : Frm (fun k => o k = 5 + i) W W') :
    MdAt W' (newO o W W' (5 + i)) B lo hi v1 v2 v3 vT vC Cs { M with C := M.C.set i c } where
  head := (hF.block B h.head.lt (by rw [h.hown]; omega)).trans h.head
  hown := by rw [newO_old h.head.lt]; exact h.hown
  prog := keep_prog h.prog hF (fun k h1 h2 => by rw [h.pown k h1 h2]; omega)
  pown := fun k h1 h2 => by rw [newO_old (Nat.lt_of_lt_of_le h2 h.prog.top)]; exact h.pown k h1 h2
  tasks := keep_row h.tasks hF (fun g e => by rw [h.town g e]; omega)
  town := fun g e => by rw [newO_old (h.low g (by rw [h.town g e]; omega))]; exact h.town g e
  chans := keep_row h.chans hF (fun g e => by rw [h.cown g e]; omega)
  cown := fun g e => by rw [newO_old (h.low g (by rw [h.cown g e]; omega))]; exact h.cown g e
  len := by simp [h.len]
  chs := fun j D d hD hd => by
    by_cases e : j = i
    · subst e
      rw [hC] at hD
      cases hD
      have hjl : j < M.C.length := by rw [<- h.len]; exact (List.getElem?_eq_some_iff.1 hC).1
      simp only [List.getElem?_set_self hjl, Option.some.injEq] at hd
      subst hd
      refine hc.fl.mono (fun k hk => ?_)
      obtain ⟨h1, h2⟩ := hk
      rcases h1 with h1 | h1
      · rw [newO_old (h.low k (by rw [h1]; omega))]; exact h1
      · simp [newO, h2, Nat.not_lt.2 h1]
    · rw [List.getElem?_set_ne (Ne.symm e)] at hd
      have hj := h.chs j D d hD hd
      refine (keep_chn hj hF (fun g hg => by rw [hg]; omega)).fl.mono (fun k hk => ?_)
      rw [newO_old (h.low k (by rw [hk.1]; omega))]; exact hk.1
  low := fun k hk => by
    unfold newO at hk
    split at hk
    · exact Nat.lt_of_lt_of_le (h.low k hk) hF.size
    · split at hk
      · assumption
      · exact absurd rfl hk
theorem goes_channed {i : Nat} (hF : Frm (fun k => o k = 5 + i) W W') : Goes o (newO o W W' (5 + i)) W W' := ⟨fun _ hk => newO_old hk, hF.mono (fun k e => by rw [e]; omega)⟩
end
open Go.RowKit
theorem mneed_ok (k : Int) (w : World) : Calls Tryz.prog 25 #[.bool true, .int .i64 k] w fun e w' => e = .returned (.tuple #[]) /\ w' = w := by
  go_enter Tryz.func25, Tryz.ntmps25
  go_wp2_with fail
  go_end0
  exact ⟨rfl, rfl⟩
theorem mneed_bad (k : Int) (w : World) : Calls Tryz.prog 25 #[.bool false, .int .i64 k] w fun e w' => e = .panicked [{ v := .iface 71 (.agg #[.int .i64 k]), recovered := false }] /\ w' = w := by
  go_enter Tryz.func25, Tryz.ntmps25
  go_wp2_with fail
  exact ⟨rfl, rfl, rfl⟩
theorem assertNilM (w : World) : (Instr.typeAssert Value.nilIface 20 71 true).run Tryz.prog w = .ok (.tuple #[.agg #[.int .i64 0], .bool false]) w := by kernel_rfl
theorem assertRef (x : Int) (w : World) : (Instr.typeAssert (.iface 71 (.agg #[.int .i64 x])) 20 71 true).run Tryz.prog w = .ok (.tuple #[.agg #[.int .i64 x], .bool true]) w := by kernel_rfl
set_option linter.unusedSimpArgs false in
theorem new_idle (E : Nat) (w : World) :
    CallsD Tryz.prog 23 #[.pointer (some ⟨E, 0, none⟩)] .returning w fun e u' w' => e = .returned (.tuple #[]) /\ u' = .returning /\ Below w.heap.size w w' := by
  refine callsD_of_wpS Tryz.func23 rfl fun c₀ cs hu => ?_
  have hrec : recoverD (c₀ :: cs) = none := by simp [recoverD, hu]
  apply wpS_seq
  simp only [Tryz.ntmps23, List.size_toArray, List.length_cons, List.length_nil, Nat.reduceAdd, Nat.reduceSub, Array.replicate_succ, Array.replicate_zero, List.push_toArray, List.append_toArray, List.nil_append, List.cons_append]
  refine wpS_region_steps ?_
  refine StepsS.none ?h1 (w' := w) ?h2 hrec ?_
  case h1 => kernel_rfl
  case h2 => rfl
  simp only [Act.put, tA, tZ, tS]
  refine StepsS.value ?h1 (w' := w) (v := .tuple #[.agg #[.int .i64 0], .bool false]) ?h2 ?_
  case h1 => kernel_rfl
  case h2 => simp [execOp, go_sem, assertNilM]
  try simp only [Act.put, tA, tZ, tS]
  refine StepsS.value ?h1 (w' := w) (v := .tuple #[.agg #[.int .i64 0], .bool false]) ?h2 ?_
  case h1 => kernel_rfl
  case h2 => simp [execOp, go_sem]
  try simp only [Act.put, tA, tZ, tS]
  refine StepsS.value ?h1 (w' := w) (v := .agg #[.int .i64 0]) ?h2 ?_
  case h1 => kernel_rfl
  case h2 => simp [execOp, go_sem]
  try simp only [Act.put, tA, tZ, tS]
  refine StepsS.value ?h1 (w' := w) (v := .bool false) ?h2 ?_
  case h1 => kernel_rfl
  case h2 => simp [execOp, go_sem]
  try simp only [Act.put, tA, tZ, tS]
  refine StepsS.value ?h1 (w' := (w.alloc (.cells #[.int .i64 0] 71))) (v := .pointer (some ⟨w.heap.size, 0, none⟩)) ?h2 ?_
  case h1 => kernel_rfl
  case h2 => simp [execOp, go_sem]
  try simp only [Act.put, tA, tZ, tS]
  refine StepsS.skip ?h1 (w' := (w.alloc (.cells #[.int .i64 0] 71)))  ?h2 ?_
  case h1 => kernel_rfl
  case h2 => simp [execOp, go_sem]
  try simp only [Act.put, tA, tZ, tS]
  refine StepsS.value ?h1 (w' := (w.alloc (.cells #[.int .i64 0] 71))) (v := .bool false) ?h2 ?_
  case h1 => kernel_rfl
  case h2 => simp [execOp, go_sem]
  try simp only [Act.put, tA, tZ, tS]
  refine StepsS.done ?_
  refine wpS_of_wp ?_
  go_wp2_with fail
  have hb0 : Below w.heap.size w (w.alloc (.cells #[.int .i64 0] 71)) := (Below.refl _ w).alloc (Nat.le_refl _) _
  cases c₀
  simp only at hu
  subst hu
  simp [bodyPostS, results, Tryz.results23, hb0]
set_option linter.unusedSimpArgs false in
theorem new_caught (E : Nat) (x : Int) (older : List PanicEntry) (w : World) (x0 : Int) (h : Boxed w E 28 (.int .i64 x0)) :
    CallsD Tryz.prog 23 #[.pointer (some ⟨E, 0, none⟩)] (.panicking ({ v := .iface 71 (.agg #[.int .i64 x]), recovered := false } :: older)) w fun e u' w' =>
      e = .returned (.tuple #[]) /\ u' = .panicking ({ v := .iface 71 (.agg #[.int .i64 x]), recovered := true } :: older) /\ Boxed w' E 28 (.int .i64 x) /\ But [E] w w' := by
  have hf := h.frozen
  have hc := h.cell
  have hl := h.lt
  refine callsD_of_wpS Tryz.func23 rfl fun c₀ cs hu => ?_
  have hrec : recoverD (c₀ :: cs) = some (.iface 71 (.agg #[.int .i64 x]), { c₀ with mode := .panicking ({ v := .iface 71 (.agg #[.int .i64 x]), recovered := true } :: older) } :: cs) := by simp [recoverD, hu]
  apply wpS_seq
  simp only [Tryz.ntmps23, List.size_toArray, List.length_cons, List.length_nil, Nat.reduceAdd, Nat.reduceSub, Array.replicate_succ, Array.replicate_zero, List.push_toArray, List.append_toArray, List.nil_append, List.cons_append]
  refine wpS_region_steps ?_
  refine StepsS.recover ?h1 (w' := w) ?h2 hrec ?_
  case h1 => kernel_rfl
  case h2 => rfl
  simp only [Act.put, tA, tZ, tS]
  refine StepsS.value ?h1 (w' := w) (v := .tuple #[.agg #[.int .i64 x], .bool true]) ?h2 ?_
  case h1 => kernel_rfl
  case h2 => simp [execOp, go_sem, assertRef]
  try simp only [Act.put, tA, tZ, tS]
  refine StepsS.value ?h1 (w' := w) (v := .tuple #[.agg #[.int .i64 x], .bool true]) ?h2 ?_
  case h1 => kernel_rfl
  case h2 => simp [execOp, go_sem]
  try simp only [Act.put, tA, tZ, tS]
  refine StepsS.value ?h1 (w' := w) (v := .agg #[.int .i64 x]) ?h2 ?_
  case h1 => kernel_rfl
  case h2 => simp [execOp, go_sem]
  try simp only [Act.put, tA, tZ, tS]
  refine StepsS.value ?h1 (w' := w) (v := .bool true) ?h2 ?_
  case h1 => kernel_rfl
  case h2 => simp [execOp, go_sem]
  try simp only [Act.put, tA, tZ, tS]
  refine StepsS.value ?h1 (w' := (w.alloc (.cells #[.int .i64 0] 71))) (v := .pointer (some ⟨w.heap.size, 0, none⟩)) ?h2 ?_
  case h1 => kernel_rfl
  case h2 => simp [execOp, go_sem]
  try simp only [Act.put, tA, tZ, tS]
  refine StepsS.skip ?h1 (w' := (w.alloc (.cells #[.int .i64 x] 71)))  ?h2 ?_
  case h1 => kernel_rfl
  case h2 => simp [execOp, go_sem]
  try simp only [Act.put, tA, tZ, tS]
  refine StepsS.value ?h1 (w' := (w.alloc (.cells #[.int .i64 x] 71))) (v := .bool true) ?h2 ?_
  case h1 => kernel_rfl
  case h2 => simp [execOp, go_sem]
  try simp only [Act.put, tA, tZ, tS]
  refine StepsS.done ?_
  refine wpS_of_wp ?_
  have r1 : Boxed ((w.setCell ⟨E, 0, none⟩ (.int .i64 x)).alloc (.cells #[.int .i64 x] 71)) E 28 (.int .i64 x) := (h.set _).alloc _
  have r2 : But [E] w ((w.setCell ⟨E, 0, none⟩ (.int .i64 x)).alloc (.cells #[.int .i64 x] 71)) := ((But.refl [E] w).set (p := ⟨E, 0, none⟩) (.inl (by simp)) _).alloc _
  go_wp2_with fail
  cases c₀
  simp only at hu
  subst hu
  simp [bodyPostS, results, Tryz.results23, r1, r2]
set_option linter.unusedSimpArgs false in
theorem stand_idle (E : Nat) (w : World) :
    CallsD Tryz.prog 34 #[.pointer (some ⟨E, 0, none⟩)] .returning w fun e u' w' => e = .returned (.tuple #[]) /\ u' = .returning /\ Below w.heap.size w w' := by
  refine callsD_of_wpS Tryz.func34 rfl fun c₀ cs hu => ?_
  have hrec : recoverD (c₀ :: cs) = none := by simp [recoverD, hu]
  apply wpS_seq
  simp only [Tryz.ntmps34, List.size_toArray, List.length_cons, List.length_nil, Nat.reduceAdd, Nat.reduceSub, Array.replicate_succ, Array.replicate_zero, List.push_toArray, List.append_toArray, List.nil_append, List.cons_append]
  refine wpS_region_steps ?_
  refine StepsS.none ?h1 (w' := w) ?h2 hrec ?_
  case h1 => kernel_rfl
  case h2 => rfl
  simp only [Act.put, tA, tZ, tS]
  refine StepsS.value ?h1 (w' := w) (v := .tuple #[.agg #[.int .i64 0], .bool false]) ?h2 ?_
  case h1 => kernel_rfl
  case h2 => simp [execOp, go_sem, assertNilM]
  try simp only [Act.put, tA, tZ, tS]
  refine StepsS.value ?h1 (w' := w) (v := .tuple #[.agg #[.int .i64 0], .bool false]) ?h2 ?_
  case h1 => kernel_rfl
  case h2 => simp [execOp, go_sem]
  try simp only [Act.put, tA, tZ, tS]
  refine StepsS.value ?h1 (w' := w) (v := .agg #[.int .i64 0]) ?h2 ?_
  case h1 => kernel_rfl
  case h2 => simp [execOp, go_sem]
  try simp only [Act.put, tA, tZ, tS]
  refine StepsS.value ?h1 (w' := w) (v := .bool false) ?h2 ?_
  case h1 => kernel_rfl
  case h2 => simp [execOp, go_sem]
  try simp only [Act.put, tA, tZ, tS]
  refine StepsS.value ?h1 (w' := (w.alloc (.cells #[.int .i64 0] 71))) (v := .pointer (some ⟨w.heap.size, 0, none⟩)) ?h2 ?_
  case h1 => kernel_rfl
  case h2 => simp [execOp, go_sem]
  try simp only [Act.put, tA, tZ, tS]
  refine StepsS.skip ?h1 (w' := (w.alloc (.cells #[.int .i64 0] 71)))  ?h2 ?_
  case h1 => kernel_rfl
  case h2 => simp [execOp, go_sem]
  try simp only [Act.put, tA, tZ, tS]
  refine StepsS.value ?h1 (w' := (w.alloc (.cells #[.int .i64 0] 71))) (v := .bool false) ?h2 ?_
  case h1 => kernel_rfl
  case h2 => simp [execOp, go_sem]
  try simp only [Act.put, tA, tZ, tS]
  refine StepsS.done ?_
  refine wpS_of_wp ?_
  go_wp2_with fail
  have hb0 : Below w.heap.size w (w.alloc (.cells #[.int .i64 0] 71)) := (Below.refl _ w).alloc (Nat.le_refl _) _
  cases c₀
  simp only at hu
  subst hu
  simp [bodyPostS, results, Tryz.results34, hb0]
set_option linter.unusedSimpArgs false in
theorem stand_caught (E : Nat) (x : Int) (older : List PanicEntry) (w : World) (x0 : Int) (h : Boxed w E 28 (.int .i64 x0)) :
    CallsD Tryz.prog 34 #[.pointer (some ⟨E, 0, none⟩)] (.panicking ({ v := .iface 71 (.agg #[.int .i64 x]), recovered := false } :: older)) w fun e u' w' =>
      e = .returned (.tuple #[]) /\ u' = .panicking ({ v := .iface 71 (.agg #[.int .i64 x]), recovered := true } :: older) /\ Boxed w' E 28 (.int .i64 x) /\ But [E] w w' := by
  have hf := h.frozen
  have hc := h.cell
  have hl := h.lt
  refine callsD_of_wpS Tryz.func34 rfl fun c₀ cs hu => ?_
  have hrec : recoverD (c₀ :: cs) = some (.iface 71 (.agg #[.int .i64 x]), { c₀ with mode := .panicking ({ v := .iface 71 (.agg #[.int .i64 x]), recovered := true } :: older) } :: cs) := by simp [recoverD, hu]
  apply wpS_seq
  simp only [Tryz.ntmps34, List.size_toArray, List.length_cons, List.length_nil, Nat.reduceAdd, Nat.reduceSub, Array.replicate_succ, Array.replicate_zero, List.push_toArray, List.append_toArray, List.nil_append, List.cons_append]
  refine wpS_region_steps ?_
  refine StepsS.recover ?h1 (w' := w) ?h2 hrec ?_
  case h1 => kernel_rfl
  case h2 => rfl
  simp only [Act.put, tA, tZ, tS]
  refine StepsS.value ?h1 (w' := w) (v := .tuple #[.agg #[.int .i64 x], .bool true]) ?h2 ?_
  case h1 => kernel_rfl
  case h2 => simp [execOp, go_sem, assertRef]
  try simp only [Act.put, tA, tZ, tS]
  refine StepsS.value ?h1 (w' := w) (v := .tuple #[.agg #[.int .i64 x], .bool true]) ?h2 ?_
  case h1 => kernel_rfl
  case h2 => simp [execOp, go_sem]
  try simp only [Act.put, tA, tZ, tS]
  refine StepsS.value ?h1 (w' := w) (v := .agg #[.int .i64 x]) ?h2 ?_
  case h1 => kernel_rfl
  case h2 => simp [execOp, go_sem]
  try simp only [Act.put, tA, tZ, tS]
  refine StepsS.value ?h1 (w' := w) (v := .bool true) ?h2 ?_
  case h1 => kernel_rfl
  case h2 => simp [execOp, go_sem]
  try simp only [Act.put, tA, tZ, tS]
  refine StepsS.value ?h1 (w' := (w.alloc (.cells #[.int .i64 0] 71))) (v := .pointer (some ⟨w.heap.size, 0, none⟩)) ?h2 ?_
  case h1 => kernel_rfl
  case h2 => simp [execOp, go_sem]
  try simp only [Act.put, tA, tZ, tS]
  refine StepsS.skip ?h1 (w' := (w.alloc (.cells #[.int .i64 x] 71)))  ?h2 ?_
  case h1 => kernel_rfl
  case h2 => simp [execOp, go_sem]
  try simp only [Act.put, tA, tZ, tS]
  refine StepsS.value ?h1 (w' := (w.alloc (.cells #[.int .i64 x] 71))) (v := .bool true) ?h2 ?_
  case h1 => kernel_rfl
  case h2 => simp [execOp, go_sem]
  try simp only [Act.put, tA, tZ, tS]
  refine StepsS.done ?_
  refine wpS_of_wp ?_
  have r1 : Boxed ((w.setCell ⟨E, 0, none⟩ (.int .i64 x)).alloc (.cells #[.int .i64 x] 71)) E 28 (.int .i64 x) := (h.set _).alloc _
  have r2 : But [E] w ((w.setCell ⟨E, 0, none⟩ (.int .i64 x)).alloc (.cells #[.int .i64 x] 71)) := ((But.refl [E] w).set (p := ⟨E, 0, none⟩) (.inl (by simp)) _).alloc _
  go_wp2_with fail
  cases c₀
  simp only at hu
  subst hu
  simp [bodyPostS, results, Tryz.results34, r1, r2]
set_option linter.unusedSimpArgs false in
theorem apply_idle (E : Nat) (w : World) :
    CallsD Tryz.prog 37 #[.pointer (some ⟨E, 0, none⟩)] .returning w fun e u' w' => e = .returned (.tuple #[]) /\ u' = .returning /\ Below w.heap.size w w' := by
  refine callsD_of_wpS Tryz.func37 rfl fun c₀ cs hu => ?_
  have hrec : recoverD (c₀ :: cs) = none := by simp [recoverD, hu]
  apply wpS_seq
  simp only [Tryz.ntmps37, List.size_toArray, List.length_cons, List.length_nil, Nat.reduceAdd, Nat.reduceSub, Array.replicate_succ, Array.replicate_zero, List.push_toArray, List.append_toArray, List.nil_append, List.cons_append]
  refine wpS_region_steps ?_
  refine StepsS.none ?h1 (w' := w) ?h2 hrec ?_
  case h1 => kernel_rfl
  case h2 => rfl
  simp only [Act.put, tA, tZ, tS]
  refine StepsS.value ?h1 (w' := w) (v := .tuple #[.agg #[.int .i64 0], .bool false]) ?h2 ?_
  case h1 => kernel_rfl
  case h2 => simp [execOp, go_sem, assertNilM]
  try simp only [Act.put, tA, tZ, tS]
  refine StepsS.value ?h1 (w' := w) (v := .tuple #[.agg #[.int .i64 0], .bool false]) ?h2 ?_
  case h1 => kernel_rfl
  case h2 => simp [execOp, go_sem]
  try simp only [Act.put, tA, tZ, tS]
  refine StepsS.value ?h1 (w' := w) (v := .agg #[.int .i64 0]) ?h2 ?_
  case h1 => kernel_rfl
  case h2 => simp [execOp, go_sem]
  try simp only [Act.put, tA, tZ, tS]
  refine StepsS.value ?h1 (w' := w) (v := .bool false) ?h2 ?_
  case h1 => kernel_rfl
  case h2 => simp [execOp, go_sem]
  try simp only [Act.put, tA, tZ, tS]
  refine StepsS.value ?h1 (w' := (w.alloc (.cells #[.int .i64 0] 71))) (v := .pointer (some ⟨w.heap.size, 0, none⟩)) ?h2 ?_
  case h1 => kernel_rfl
  case h2 => simp [execOp, go_sem]
  try simp only [Act.put, tA, tZ, tS]
  refine StepsS.skip ?h1 (w' := (w.alloc (.cells #[.int .i64 0] 71)))  ?h2 ?_
  case h1 => kernel_rfl
  case h2 => simp [execOp, go_sem]
  try simp only [Act.put, tA, tZ, tS]
  refine StepsS.value ?h1 (w' := (w.alloc (.cells #[.int .i64 0] 71))) (v := .bool false) ?h2 ?_
  case h1 => kernel_rfl
  case h2 => simp [execOp, go_sem]
  try simp only [Act.put, tA, tZ, tS]
  refine StepsS.done ?_
  refine wpS_of_wp ?_
  go_wp2_with fail
  have hb0 : Below w.heap.size w (w.alloc (.cells #[.int .i64 0] 71)) := (Below.refl _ w).alloc (Nat.le_refl _) _
  cases c₀
  simp only at hu
  subst hu
  simp [bodyPostS, results, Tryz.results37, hb0]
set_option linter.unusedSimpArgs false in
theorem apply_caught (E : Nat) (x : Int) (older : List PanicEntry) (w : World) (x0 : Int) (h : Boxed w E 28 (.int .i64 x0)) :
    CallsD Tryz.prog 37 #[.pointer (some ⟨E, 0, none⟩)] (.panicking ({ v := .iface 71 (.agg #[.int .i64 x]), recovered := false } :: older)) w fun e u' w' =>
      e = .returned (.tuple #[]) /\ u' = .panicking ({ v := .iface 71 (.agg #[.int .i64 x]), recovered := true } :: older) /\ Boxed w' E 28 (.int .i64 x) /\ But [E] w w' := by
  have hf := h.frozen
  have hc := h.cell
  have hl := h.lt
  refine callsD_of_wpS Tryz.func37 rfl fun c₀ cs hu => ?_
  have hrec : recoverD (c₀ :: cs) = some (.iface 71 (.agg #[.int .i64 x]), { c₀ with mode := .panicking ({ v := .iface 71 (.agg #[.int .i64 x]), recovered := true } :: older) } :: cs) := by simp [recoverD, hu]
  apply wpS_seq
  simp only [Tryz.ntmps37, List.size_toArray, List.length_cons, List.length_nil, Nat.reduceAdd, Nat.reduceSub, Array.replicate_succ, Array.replicate_zero, List.push_toArray, List.append_toArray, List.nil_append, List.cons_append]
  refine wpS_region_steps ?_
  refine StepsS.recover ?h1 (w' := w) ?h2 hrec ?_
  case h1 => kernel_rfl
  case h2 => rfl
  simp only [Act.put, tA, tZ, tS]
  refine StepsS.value ?h1 (w' := w) (v := .tuple #[.agg #[.int .i64 x], .bool true]) ?h2 ?_
  case h1 => kernel_rfl
  case h2 => simp [execOp, go_sem, assertRef]
  try simp only [Act.put, tA, tZ, tS]
  refine StepsS.value ?h1 (w' := w) (v := .tuple #[.agg #[.int .i64 x], .bool true]) ?h2 ?_
  case h1 => kernel_rfl
  case h2 => simp [execOp, go_sem]
  try simp only [Act.put, tA, tZ, tS]
  refine StepsS.value ?h1 (w' := w) (v := .agg #[.int .i64 x]) ?h2 ?_
  case h1 => kernel_rfl
  case h2 => simp [execOp, go_sem]
  try simp only [Act.put, tA, tZ, tS]
  refine StepsS.value ?h1 (w' := w) (v := .bool true) ?h2 ?_
  case h1 => kernel_rfl
  case h2 => simp [execOp, go_sem]
  try simp only [Act.put, tA, tZ, tS]
  refine StepsS.value ?h1 (w' := (w.alloc (.cells #[.int .i64 0] 71))) (v := .pointer (some ⟨w.heap.size, 0, none⟩)) ?h2 ?_
  case h1 => kernel_rfl
  case h2 => simp [execOp, go_sem]
  try simp only [Act.put, tA, tZ, tS]
  refine StepsS.skip ?h1 (w' := (w.alloc (.cells #[.int .i64 x] 71)))  ?h2 ?_
  case h1 => kernel_rfl
  case h2 => simp [execOp, go_sem]
  try simp only [Act.put, tA, tZ, tS]
  refine StepsS.value ?h1 (w' := (w.alloc (.cells #[.int .i64 x] 71))) (v := .bool true) ?h2 ?_
  case h1 => kernel_rfl
  case h2 => simp [execOp, go_sem]
  try simp only [Act.put, tA, tZ, tS]
  refine StepsS.done ?_
  refine wpS_of_wp ?_
  have r1 : Boxed ((w.setCell ⟨E, 0, none⟩ (.int .i64 x)).alloc (.cells #[.int .i64 x] 71)) E 28 (.int .i64 x) := (h.set _).alloc _
  have r2 : But [E] w ((w.setCell ⟨E, 0, none⟩ (.int .i64 x)).alloc (.cells #[.int .i64 x] 71)) := ((But.refl [E] w).set (p := ⟨E, 0, none⟩) (.inl (by simp)) _).alloc _
  go_wp2_with fail
  cases c₀
  simp only at hu
  subst hu
  simp [bodyPostS, results, Tryz.results37, r1, r2]
end Go.Proofs.YtdijhgaaeifbfaaGreat.Mdl
