/-
  ModelMoves: its walks, part 40: DNext DMade DClone DMCopy.
-/
import Derived.Test.YtdijhgaaeifbfaaGreatQ00
import Derived.Test.YtdijhgaaeifbfaaGreatQ37
import Derived.Test.YtdijhgaaeifbfaaGreatQ39
set_option maxRecDepth 100000
set_option maxHeartbeats 12800000
namespace Go.Proofs.YtdijhgaaeifbfaaGreat.Mdl
open Go.RowKit
open Ent (En EnRow okB en_one en_len)
open Mch (below1 below_nx owns_slice')
structure Stp where
  n : Nat
  raw : Bool
  cp : Bool
  x : En
def Stp.ok (s : Stp) : Prop := s.n < 65536 /\ s.x.ok
abbrev stpA (s : Stp) : Array Value := #[.int .u16 (s.n : Int), .bool s.raw, .bool s.cp, .int .i64 s.x.a, .int .u8 (s.x.k : Int), .int .i64 s.x.w, .int .i64 s.x.t, .int .i64 s.x.p, .int .i64 s.x.c, .int .i64 s.x.b, .int .i64 s.x.q, .int .i64 s.x.v, .int .i64 s.x.u, .bool s.x.o, .int .i64 s.x.e, .int .u64 (s.x.s : Int)]
abbrev stpV (s : Stp) : Value := .agg #[.int .u16 (s.n : Int), .bool s.raw, .bool s.cp, .int .i64 s.x.a, .int .u8 (s.x.k : Int), .int .i64 s.x.w, .int .i64 s.x.t, .int .i64 s.x.p, .int .i64 s.x.c, .int .i64 s.x.b, .int .i64 s.x.q, .int .i64 s.x.v, .int .i64 s.x.u, .bool s.x.o, .int .i64 s.x.e, .int .u64 (s.x.s : Int)]
def zeroE : En := ⟨0, 0, 0, 0, 0, 0, 0, 0, 0, 0, false, 0, 0⟩
def nextM (M : Mod) (s : Stp) : En × Bool :=
  if s.raw then (s.x, true) else if (allM M).length = 0 then (zeroE, false) else ((allM M)[s.n % (allM M).length]?.getD zeroE, true)
theorem allM_len {M : Mod} (h : Inv M) : (allM M).length <= 32000 := by
  have := allF_len h M.T.length
  have := h.tl; have := h.mo
  unfold allM; omega
theorem zeroE_ok : zeroE.ok := ⟨i64_zero, by decide, i64_zero, i64_zero, i64_zero, i64_zero, i64_zero, i64_zero, i64_zero, i64_zero, i64_zero, by decide⟩
theorem allM_ok {M : Mod} (h : Inv M) {x : En} (hx : x ∈ allM M) : x.ok := by
  obtain ⟨t, ht⟩ := allM_mem hx
  exact (moves_ok h x ht).1.wf
theorem nextM_ok {M : Mod} (h : Inv M) {s : Stp} (hs : s.ok) : (nextM M s).1.ok := by
  unfold nextM
  split
  · exact hs.2
  · split
    · exact zeroE_ok
    · rename_i hl
      have hlt : s.n % (allM M).length < (allM M).length := Nat.mod_lt _ (by omega)
      simp only [List.getElem?_eq_getElem hlt, Option.getD_some]
      exact allM_ok h (List.getElem_mem hlt)
theorem rem_nat (a b : Nat) : Int.tmod (a : Int) (b : Int) = ((a % b : Nat) : Int) := by
  rw [Int.tmod_eq_emod_of_nonneg (by omega)]; rfl
theorem next_any {o : Nat -> Nat} {B : Nat} {M : Mod} (s : Stp) (w : World) (h : Md w o B M) (hI : Inv M) (hs : s.ok) :
    Calls Tryz.prog 16 #[ptrV B, stpV s] w fun e w' => e = .returned (.tuple #[enV (nextM M s).1, .bool (nextM M s).2]) /\ Below w.heap.size w w' := by
  obtain ⟨w2, hw2⟩ : ∃ w2, w2 = (w.alloc (.cells (stpA s) 62)).alloc (.cells #[.int .i64 0, .int .u8 0, .int .i64 0, .int .i64 0, .int .i64 0, .int .i64 0, .int .i64 0, .int .i64 0, .int .i64 0, .int .i64 0, .bool false, .int .i64 0, .int .u64 0] 32) := ⟨_, rfl⟩
  have hB2 : Below w.heap.size w w2 := by rw [hw2]; exact below2 w _ _
  have hX : Blk w2 w.heap.size 62 (stpA s) := by rw [hw2]; exact (blk_new w _ _).alloc _
  have hZ : Blk w2 (w.heap.size + 1) 32 (enA zeroE) := by
    have := blk_new (w.alloc (.cells (stpA s) 62)) 32 (enA zeroE)
    rw [World.size_alloc] at this
    rw [hw2]; exact this
  have hal := fun (W : World) (hW : Below w.heap.size w W) => alls_any W (h.below hW) hI
  have hll := allM_len hI
  have hn16 := hs.1
  have x0 : w2.cell? ⟨w.heap.size, 0, none⟩ = some (.int .u16 (s.n : Int)) := hX.cell rfl
  have x1 : w2.cell? ⟨w.heap.size, 1, none⟩ = some (.bool s.raw) := hX.cell rfl
  have x2 : w2.cell? ⟨w.heap.size, 2, none⟩ = some (.bool s.cp) := hX.cell rfl
  have x3 : w2.cell? ⟨w.heap.size, 3, none⟩ = some (.int .i64 s.x.a) := hX.cell rfl
  have x4 : w2.cell? ⟨w.heap.size, 4, none⟩ = some (.int .u8 (s.x.k : Int)) := hX.cell rfl
  have x5 : w2.cell? ⟨w.heap.size, 5, none⟩ = some (.int .i64 s.x.w) := hX.cell rfl
  have x6 : w2.cell? ⟨w.heap.size, 6, none⟩ = some (.int .i64 s.x.t) := hX.cell rfl
  have x7 : w2.cell? ⟨w.heap.size, 7, none⟩ = some (.int .i64 s.x.p) := hX.cell rfl
  have x8 : w2.cell? ⟨w.heap.size, 8, none⟩ = some (.int .i64 s.x.c) := hX.cell rfl
  have x9 : w2.cell? ⟨w.heap.size, 9, none⟩ = some (.int .i64 s.x.b) := hX.cell rfl
  have x10 : w2.cell? ⟨w.heap.size, 10, none⟩ = some (.int .i64 s.x.q) := hX.cell rfl
  have x11 : w2.cell? ⟨w.heap.size, 11, none⟩ = some (.int .i64 s.x.v) := hX.cell rfl
  have x12 : w2.cell? ⟨w.heap.size, 12, none⟩ = some (.int .i64 s.x.u) := hX.cell rfl
  have x13 : w2.cell? ⟨w.heap.size, 13, none⟩ = some (.bool s.x.o) := hX.cell rfl
  have x14 : w2.cell? ⟨w.heap.size, 14, none⟩ = some (.int .i64 s.x.e) := hX.cell rfl
  have x15 : w2.cell? ⟨w.heap.size, 15, none⟩ = some (.int .u64 (s.x.s : Int)) := hX.cell rfl
  clear h hI hs
  cases hr : s.raw with
  | true =>
    have HN : Hid (nextM M s = (s.x, true)) := Lib.hid (by unfold nextM; rw [if_pos hr])
    rw [hr] at x1
    clear hal hll hn16 hr
    go_enter Tryz.func16, Tryz.ntmps16
    go_upto_region 1 with fail
    rw [<- hw2]
    clear hw2
    go_wp2_with (refine wpList_put rfl _ _ _ rfl (w.heap.size + 1) (enA s.x) rfl rfl hZ szEn rfl (by simp [Value.oneCell']) ?_; intro w5 E1 E2; go_frame)
    refine bodyPost_ret (v := .tuple #[enV s.x, .bool true]) (results_cell_row2 rfl _ _ (w.heap.size + 1) 32 _ _ _ rfl rfl E1 Tryz.underlying32 rfl szEn) rfl ?_
    rw [HN.out]
    exact ⟨rfl, hB2.trans (E2.below hB2.size (by simp))⟩
  | false =>
    rw [hr] at x1
    have HR := Lib.hid hr
    have ha2 := hal w2 hB2
    obtain ⟨L, hL⟩ : ∃ L, L = allM M := ⟨_, rfl⟩
    rw [<- hL] at ha2 hll
    have HL := Lib.hid hL
    clear hal hr hL
    go_enter Tryz.func16, Tryz.ntmps16
    go_upto_region 1 with fail
    rw [<- hw2]
    clear hw2
    go_wp2_with fail
    refine ha2.mono ?_
    clear ha2 x0 x1 x2 x3 x4 x5 x6 x7 x8 x9 x10 x11 x12 x13 x14 x15
    rintro e w3 ⟨a, c, rfl, hE, hb3⟩
    have hX3 := hX.later hb3 hX.lt
    have hZ3 := hZ.later hb3 hZ.lt
    have hB3 := below_nx hB2 hb3 (Nat.le_refl _)
    have x0 : w3.cell? ⟨w.heap.size, 0, none⟩ = some (.int .u16 (s.n : Int)) := hX3.cell rfl
    clear hX hZ hb3 hX3
    by_cases hz : L.length = 0
    · have HN : Hid (nextM M s = (zeroE, false)) := Lib.hid (by unfold nextM; rw [<- HL.out, if_neg (by rw [HR.out]; decide), if_pos hz])
      have dz : ((L.length : Int) == 0) = true := beq_iff_eq.mpr (by omega)
      clear hE
      go_wp2_with (refine wpList_put rfl _ _ _ rfl (w.heap.size + 1) (enA zeroE) rfl rfl hZ3 szEn rfl (by simp [Value.oneCell']) ?_; intro w5 E1 E2; go_frame)
      refine bodyPost_ret (v := .tuple #[enV zeroE, .bool false]) (results_cell_row2 rfl _ _ (w.heap.size + 1) 32 _ _ _ rfl rfl E1 Tryz.underlying32 rfl szEn) rfl ?_
      rw [HN.out]
      exact ⟨rfl, hB3.trans (E2.below hB3.size (by simp))⟩
    · have dz : ((L.length : Int) == 0) = false := beq_eq_false_iff_ne.mpr (by omega)
      have hlt : s.n % L.length < L.length := Nat.mod_lt _ (by omega)
      obtain ⟨y, hy⟩ : ∃ y, L[s.n % L.length]? = some y := ⟨_, List.getElem?_eq_getElem hlt⟩
      have HN : Hid (nextM M s = (y, true)) := Lib.hid (by unfold nextM; rw [<- HL.out, if_neg (by rw [HR.out]; decide), if_neg hz, hy]; rfl)
      have hrem := rem_nat s.n L.length
      obtain ⟨q, hq⟩ : ∃ q, q = s.n % L.length := ⟨_, rfl⟩
      rw [<- hq] at hrem hlt hy
      obtain ⟨b, off, rfl, _, y0, y1, y2, y3, y4, y5, y6, y7, y8, y9, y10, y11, y12⟩ := hE.1.at hy
      have q0 : (0 : Int) <= (q : Int) := by omega
      have q1 : (q : Int) < (L.length : Int) := by omega
      have hl0 : ¬ (L.length : Int) = 0 := by omega
      have hw16 : IntKind.i64.wrap (s.n : Int) = (s.n : Int) := by rw [IntKind.wrap_i64]; omega
      clear hE hq hy hz
      go_wp2_with (refine wpList_put rfl _ _ _ rfl (w.heap.size + 1) (enA y) rfl rfl hZ3 szEn rfl (by simp [Value.oneCell']) ?_; intro w5 E1 E2; go_frame)
      refine bodyPost_ret (v := .tuple #[enV y, .bool true]) (results_cell_row2 rfl _ _ (w.heap.size + 1) 32 _ _ _ rfl rfl E1 Tryz.underlying32 rfl szEn) rfl ?_
      rw [HN.out]
      exact ⟨rfl, hB3.trans (E2.below hB3.size (by simp))⟩
open Go.RowKit
open Mch (Chn Frm Fw Fl below1 below_nx owns_slice')
theorem infoPtr : (Tryz.prog.info? 63).map (fun i => (i.zero, i.size, i.bytes)) = some (some (.pointer none), 1, 8) := by kernel_rfl
structure ChRow (W : World) (o : Nat -> Nat) (v : Value) (Cs : List Nat) (Cl : List Cha) : Prop where
  row : W.ownsRow 0 63 1 v Cs.length (Cs.map ptrV)
  own : ∀ g, v.ownBlock = some g -> o g = 4
  len : Cs.length = Cl.length
  chs : ∀ i C c, Cs[i]? = some C -> Cl[i]? = some c -> Chn W (fun k => o k = 5 + i) C c.m c.cl c.buf c.S c.R
  low : ∀ k, o k ≠ 0 -> k < W.heap.size
theorem ChRow.nil (W : World) : ChRow W (fun _ => 0) (.slice none 0 0) [] [] := ⟨World.ownsRow_nil _ _ _ _, fun g e => by simp [Value.ownBlock] at e, rfl, fun i C c h => by simp at h, fun k h => absurd rfl h⟩
def chO (o : Nat -> Nat) (W W2 : World) (v' : Value) (n : Nat) : Nat -> Nat := fun k => if k < W.heap.size then o k else if k < W2.heap.size then 5 + n else if v'.ownBlock = some k then 4 else 0
section
variable {W W' W2 w3 : World} {o : Nat -> Nat} {v v' : Value} {Cs : List Nat} {Cl : List Cha}
theorem ChRow.below (h : ChRow W o v Cs Cl) (hb : Below W.heap.size W W') : ChRow W' o v Cs Cl :=
  ⟨owns_fresh h.row hb, h.own, h.len, fun i C c hC hc => (h.chs i C c hC hc).below hb, fun k hk => Nat.lt_of_lt_of_le (h.low k hk) hb.size⟩
theorem ChRow.kept (h : ChRow W o v Cs Cl) {G : Nat -> Prop} (hF : Frm G W W') (hG : ∀ k, G k -> o k = 0) : ChRow W' o v Cs Cl :=
  ⟨keep_row h.row hF (fun g e hg => by have h1 := hG g hg; rw [h.own g e] at h1; cases h1), h.own, h.len, fun i C c hC hc => keep_chn (h.chs i C c hC hc) hF (fun k hk hg => by have h1 := hG k hg; omega), fun k hk => Nat.lt_of_lt_of_le (h.low k hk) hF.size⟩
theorem ChRow.more (h : ChRow W o v Cs Cl) {D : Nat} {c : Cha} {G : Nat -> Prop} (hc : Chn W2 (fun k => W.heap.size <= k) D c.m c.cl c.buf c.S c.R) (hb : Below W.heap.size W W2) (hF : Frm (fun k => v.ownBlock = some k \/ G k) W2 w3)
    (hG : ∀ k, G k -> o k = 0 /\ k < W.heap.size) (hown : w3.ownsRow 0 63 1 v' (Cs.length + 1) (Cs.map ptrV ++ [ptrV D])) (hat : ∀ g, v'.ownBlock = some g -> v.ownBlock = some g \/ W2.heap.size <= g) :
    ChRow w3 (chO o W W2 v' Cl.length) v' (Cs ++ [D]) (Cl ++ [c]) := by
  have hs := hb.size
  have hlow : ∀ g, v'.ownBlock = some g -> g < w3.heap.size := fun g e => by
    rcases hown.2 with ⟨rfl, _⟩ | ⟨g', cap, cur, rfl, _, hb, _⟩
    · simp [Value.ownBlock] at e
    · obtain rfl : g' = g := by simpa [Value.ownBlock] using e
      exact (Array.getElem?_eq_some_iff.1 hb).1
  have hold : ∀ k, k < W.heap.size -> chO o W W2 v' Cl.length k = o k := fun k hk => by unfold chO; rw [if_pos hk]
  have hn : ∀ k, (v.ownBlock = some k \/ G k) -> k < W.heap.size /\ (o k = 4 \/ o k = 0) := fun k e => by
    rcases e with e | e
    · exact ⟨h.low k (by rw [h.own k e]; omega), .inl (h.own k e)⟩
    · exact ⟨(hG k e).2, .inr (hG k e).1⟩
  refine ⟨?_, ?_, by simp [h.len], ?_, ?_⟩
  · rw [List.length_append, List.length_singleton, List.map_append]; exact hown
  · intro g e
    rcases hat g e with h1 | h1
    · have h2 := h.own g h1
      rw [hold g (h.low g (by rw [h2]; omega))]; exact h2
    · unfold chO
      rw [if_neg (by omega), if_neg (by omega), if_pos e]
  · intro i C d hC hd
    by_cases hi : i < Cs.length
    · rw [List.getElem?_append_left hi] at hC
      rw [List.getElem?_append_left (by rw [<- h.len]; exact hi)] at hd
      have h1 := (h.chs i C d hC hd).below hb
      have h2 := keep_chn h1 hF (fun k hk e => by have := (hn k e).2; omega)
      exact h2.mono (fun k hk => by rw [hold k (h.low k (by rw [hk]; omega))]; exact hk)
    · have hi' : i = Cs.length := by have := (List.getElem?_eq_some_iff.1 hC).1; simp at this; omega
      subst hi'
      rw [List.getElem?_append_right (Nat.le_refl _), Nat.sub_self] at hC
      simp only [List.getElem?_cons_zero, Option.some.injEq] at hC
      subst hC
      rw [h.len, List.getElem?_append_right (Nat.le_refl _), Nat.sub_self] at hd
      simp only [List.getElem?_cons_zero, Option.some.injEq] at hd
      subst hd
      have h1 := keep_chn hc.fl hF (fun k hk e => by have h3 : W.heap.size <= k := hk.1; have := (hn k e).1; omega)
      refine h1.mono (fun k hk => ?_)
      have h3 : W.heap.size <= k := hk.1
      have h4 : k < W2.heap.size := hk.2
      unfold chO
      rw [if_neg (by omega), if_pos h4, h.len]
  · intro k hk
    have hs3 := hF.size
    unfold chO at hk
    split at hk
    · omega
    · split at hk
      · omega
      · split at hk
        · exact hlow k (by assumption)
        · exact absurd rfl hk
end
theorem row_round {wr w6 w7 : World} {o1 : Nat -> Nat} {v v7 : Value} {Ds : List Nat} {Cl : List Cha} {D b : Nat} {c : Cha} {tmp : Obj} (hR : ChRow wr o1 v Ds Cl) (hnew : ∀ k, o1 k ≠ 0 -> b <= k) (hs : b <= wr.heap.size)
    (hD6 : Chn w6 (fun k => wr.heap.size <= k) D c.m c.cl c.buf c.S c.R) (hb6 : Below wr.heap.size wr w6) (hg7 : (w6.alloc tmp).grownBy w7 v.ownBlock) (hown7 : w7.ownsRow 0 63 1 v7 (Ds.length + 1) (Ds.map ptrV ++ [ptrV D]))
    (hat7 : v7.ownBlock = v.ownBlock \/ v7.ownBlock = some (w6.alloc tmp).heap.size) :
    (∃ o2, ChRow w7 o2 v7 (Ds ++ [D]) (Cl ++ [c]) /\ ∀ k, o2 k ≠ 0 -> b <= k) /\ Frm (fun k => b <= k) wr w7 := by
  have hF : Frm (fun k => v.ownBlock = some k \/ False) w6 w7 := Mch.Frm.trans_new (Frm.of_below (below1 w6 tmp) _) (Frm.of_grown (F := fun k => v.ownBlock = some k \/ False) hg7 (fun g e => .inl e)) (fun i hi => .inl hi)
  have hsz : (w6.alloc tmp).heap.size = w6.heap.size + 1 := World.size_alloc _ _
  have h1 := hR.more (G := fun _ => False) hD6 hb6 hF (fun k hk => hk.elim) hown7 (fun g e => by
    rcases hat7 with h | h
    · exact .inl (h.symm.trans e)
    · rw [e, hsz] at h; simp only [Option.some.injEq] at h; exact .inr (by omega))
  have hs6 := hb6.size
  refine ⟨⟨_, h1, fun k hk => ?_⟩, ?_⟩
  · unfold chO at hk
    split at hk
    · exact hnew k hk
    · omega
  · refine Mch.Frm.trans_new (Frm.of_below hb6 _) hF (fun i hi => ?_)
    rcases hi with hi | hi
    · exact .inl (hnew i (by rw [hR.own i hi]; omega))
    · exact hi.elim
def asmO (o1 : Nat -> Nat) (A lo hi : Nat) (vT : Value) : Nat -> Nat := fun k => if k = A then 1 else if lo <= k /\ k < hi then 2 else if vT.ownBlock = some k then 3 else o1 k
theorem md_made {W : World} {o1 : Nat -> Nat} {A lo hi : Nat} {u1 u2 u3 vT vC : Value} {Cs : List Nat} {M : Mod} (hh : Blk W A 84 (mdCells u1 u2 u3 vT vC M)) (hp : PrgAt lo hi W u1 u2 u3 M.p) (ht : W.ownsRow 0 52 11 vT M.T.length (flatP M.T))
    (hc : ChRow W o1 vC Cs M.C) (hA0 : o1 A = 0) (hp0 : ∀ k, lo <= k -> k < hi -> o1 k = 0 /\ k ≠ A) (ht0 : ∀ g, vT.ownBlock = some g -> o1 g = 0 /\ g ≠ A /\ ¬ (lo <= g /\ g < hi)) : Md W (asmO o1 A lo hi vT) A M := by
  have hsame : ∀ k, o1 k ≠ 0 -> asmO o1 A lo hi vT k = o1 k := fun k hk => by
    unfold asmO
    rw [if_neg (fun e => hk (by rw [e]; exact hA0)), if_neg (fun e => hk (hp0 k e.1 e.2).1), if_neg (fun e => hk (ht0 k e).1)]
  have htl : ∀ g, vT.ownBlock = some g -> g < W.heap.size := fun g e => by
    rcases ht.2 with ⟨rfl, _⟩ | ⟨g', cap, cur, rfl, _, hb, _⟩
    · simp [Value.ownBlock] at e
    · obtain rfl : g' = g := by simpa [Value.ownBlock] using e
      exact (Array.getElem?_eq_some_iff.1 hb).1
  exact ⟨lo, hi, u1, u2, u3, vT, vC, Cs, {
    head := hh
    hown := by unfold asmO; rw [if_pos rfl]
    prog := hp
    pown := fun k h1 h2 => by unfold asmO; rw [if_neg (hp0 k h1 h2).2, if_pos ⟨h1, h2⟩]
    tasks := ht
    town := fun g e => by obtain ⟨_, h2, h3⟩ := ht0 g e; unfold asmO; rw [if_neg h2, if_neg h3, if_pos e]
    chans := hc.row
    cown := fun g e => by rw [hsame g (by rw [hc.own g e]; omega)]; exact hc.own g e
    len := hc.len
    chs := fun i C c hC hd => (hc.chs i C c hC hd).mono (fun k hk => by rw [hsame k (by rw [hk]; omega)]; exact hk)
    low := fun k hk => by
      unfold asmO at hk
      split at hk
      · rename_i e; rw [e]; exact hh.lt
      · split at hk
        · rename_i e; exact Nat.lt_of_lt_of_le e.2 hp.top
        · split at hk
          · exact htl k (by assumption)
          · exact hc.low k hk }⟩
theorem asm_new {o1 : Nat -> Nat} {A lo hi b : Nat} {vT : Value} (hA : b <= A) (hp : b <= lo) (ht : ∀ g, vT.ownBlock = some g -> b <= g) (hc : ∀ k, o1 k ≠ 0 -> b <= k) : ∀ k, asmO o1 A lo hi vT k ≠ 0 -> b <= k := fun k hk => by
  unfold asmO at hk
  split at hk
  · omega
  · split at hk
    · omega
    · split at hk
      · exact ht k (by assumption)
      · exact hc k hk
open Go.RowKit
open Mch (below1 below_nx owns_slice')
theorem cloneP_any {b : Nat} {v : Value} {l : List Pla} (w : World) (h : w.ownsRow b 52 11 v l.length (flatP l)) (hn : l.length <= 1000000) :
    Calls Tryz.prog 36 #[v] w fun e w' => ∃ v', e = .returned v' /\ w'.ownsRow w.heap.size 52 11 v' l.length (flatP l) /\ Below w.heap.size w w' := by
  obtain ⟨n, hnl⟩ : ∃ n, n = l.length := ⟨_, rfl⟩
  obtain ⟨xs, hxs⟩ : ∃ xs, xs = flatP l := ⟨_, rfl⟩
  have h1 : ∀ u ∈ xs, u.oneCell' = true := by rw [hxs]; exact pla_one l
  have hl : xs.length = n * 11 := by rw [hxs, hnl]; exact flatP_len l
  rw [<- hnl, <- hxs] at h ⊢
  rw [<- hnl] at hn
  clear hnl hxs
  rcases id h.2 with ⟨rfl, hn0⟩ | ⟨g, cap, cur, rfl, hg, hb, _⟩
  · have qT : ∀ w : World, (binOp .eql 81 (.slice none 0 0) (.slice none 0 0)).run Tryz.prog w = .ok (.bool true) w := fun w => Lib.run_eql_slice_nil w 81 52 none 0 0 0 0 Tryz.underlying81
    have HH : Hid (n = 0 /\ xs = []) := Lib.hid ⟨hn0, List.eq_nil_of_length_eq_zero (by omega)⟩
    clear h hn0 hl hn h1
    go_enter Tryz.func36, Tryz.ntmps36
    go_wp2_with fail
    go_ret
    obtain ⟨rfl, rfl⟩ := HH.out
    exact ⟨_, rfl, World.ownsRow_nil _ _ _ _, Below.refl _ _⟩
  · have qT : ∀ w : World, (binOp .eql 81 (.slice (some ⟨g, 0, none⟩) n cap) (.slice none 0 0)).run Tryz.prog w = .ok (.bool false) w := fun w => Lib.run_eql_slice_nil w 81 52 (some ⟨g, 0, none⟩) n cap 0 0 Tryz.underlying81
    obtain ⟨i0, hi, hz0, hz1, hz2⟩ := info_parts infoPla
    have hb0 : Below w.heap.size w (w.alloc (.cells #[] 52)) := below1 w _
    have hcs : ∀ j u, xs[j]? = some u -> (w.alloc (.cells #[] 52)).cell? (Addr.add ⟨g, 0, none⟩ j) = some u := fun j u hj => (h.alloc (.cells #[] 52)).cells (g := g) rfl j u hj
    clear h hb
    go_enter Tryz.func36, Tryz.ntmps36
    go_wp2_with (at_builtin; refine wpList_append_own _ rfl _ _ 81 rfl w.heap.size 52 i0 (.agg #[.int .u8 0, .int .i64 0, .int .i64 0, .int .i64 0, .int .i64 0, .int .i64 0, .int .i64 0, .int .i64 0, .int .i64 0, .int .i64 0, .int .i64 0]) 11 88 Tryz.underlying81 hi hz0 hz1 hz2 rfl (by decide) _ 0 [] rfl (World.ownsRow_made w #[] 0 (Nat.le_refl _) (by decide) rfl) ⟨g, 0, none⟩ n cap xs rfl ?c0 ?c1 ?c2 ?c3 ?c4 ?c5 ?_)
    case c0 => omega
    case c1 => exact hcs
    case c2 => exact h1
    case c3 => unfold maxLen; omega
    case c4 => omega
    try (case c5 => first | exact Nat.le_refl _ | omega | (simp; done) | (simp; omega))
    intro v1 w1 hown hgrow hnil
    have hown' : w1.ownsRow w.heap.size 52 11 v1 n xs := by simpa using hown
    have hb1 : Below w.heap.size w w1 := hb0.trans ⟨hgrow.os, hgrow.tape, hgrow.output, Nat.le_trans (by simp) hgrow.size, fun k hk => hgrow.block k (by simp; omega) (fun e => by have : k = w.heap.size := Option.some.inj e; omega)⟩
    obtain ⟨a', c', rfl⟩ := owns_slice' hown'
    clear hown hgrow hnil hcs
    go_wp2_with fail
    go_ret
    exact ⟨_, rfl, hown', hb1⟩
open Go.RowKit
open Mch (Chn Frm Fw Fl below1 below_nx owns_slice')
theorem frm_low {w W W' : World} {G : Nat -> Prop} (h : Below w.heap.size w W) (hF : Frm G W W') (hG : ∀ k, G k -> w.heap.size <= k) : Below w.heap.size w W' :=
  ⟨hF.os.trans h.os, hF.tape.trans h.tape, hF.output.trans h.output, Nat.le_trans h.size hF.size, fun k hk => (hF.block k (Nat.lt_of_lt_of_le hk h.size) (fun e => by have := hG k e; omega)).trans (h.block k hk)⟩
def NewMd (w : World) (M : Mod) (A : Nat) (w' : World) : Prop := ∃ o', Md w' o' A M /\ (∀ k, o' k ≠ 0 -> w.heap.size <= k)
def CopyPost (w : World) (M : Mod) (e : Ending) (w' : World) : Prop := ∃ A, e = .returned (ptrV A) /\ NewMd w M A w' /\ Below w.heap.size w w'
theorem mcopy_any {o : Nat -> Nat} {B : Nat} {M : Mod} (w : World) (h : Md w o B M) (hI : Inv M) :
    Calls Tryz.prog 13 #[ptrV B] w (CopyPost w M) := by
  obtain ⟨i0, hi, hz0, hz1, hz2⟩ := info_parts infoPtr
  obtain ⟨lo, hi', v1, v2, v3, vT, vC, Cs, hM⟩ := h
  obtain ⟨a1, c1, rfl⟩ := hM.prog.caps.slice
  obtain ⟨a2, c2, rfl⟩ := hM.prog.codes.slice
  obtain ⟨a3, c3, rfl⟩ := hM.prog.sites.slice
  obtain ⟨aT, cT, rfl⟩ := owns_slice' hM.tasks
  obtain ⟨aC, cC, rfl⟩ := owns_slice' hM.chans
  have h : Md w o B M := ⟨lo, hi', _, _, _, _, _, Cs, hM⟩
  obtain ⟨A, hA⟩ : ∃ A, A = w.heap.size := ⟨_, rfl⟩
  obtain ⟨w1, hw1⟩ : ∃ w1, w1 = w.alloc (.cells (mdCells (.slice a1 M.p.caps.length c1) (.slice a2 M.p.codes.length c2) (.slice a3 M.p.sites.length c3) (.slice aT M.T.length cT) (.slice aC Cs.length cC) M) 84) := ⟨_, rfl⟩
  have hb1 : Below w.heap.size w w1 := by rw [hw1]; exact below1 w _
  have hH1 : Blk w1 A 84 (mdCells (.slice a1 M.p.caps.length c1) (.slice a2 M.p.codes.length c2) (.slice a3 M.p.sites.length c3) (.slice aT M.T.length cT) (.slice aC Cs.length cC) M) := by rw [hw1, hA]; exact blk_new w _ _
  have hcp := Go.Proofs.YtdijhgaaeifbfaaGreat.copy_any w1 (hM.below hb1).prog hI.small
  have hM1 := hM.below hb1
  have m0 := hM.p1
  have m1 := hM.p2
  have m2 := hM.p3
  have m3 := hM.mst
  have m4 := hM.tk
  have m5 := hM.cn
  have m6 := hM.k0
  have m7 := hM.k1
  have m8 := hM.k2
  have m9 := hM.k3
  have m10 := hM.k4
  have m11 := hM.k5
  have m12 := hM.wh
  have m13 := hM.er
  go_enter Tryz.func13, Tryz.ntmps13
  go_upto_region 4 with fail
  have hw1' : w1 = w.alloc (.cells #[(.slice a1 M.p.caps.length c1), (.slice a2 M.p.codes.length c2), (.slice a3 M.p.sites.length c3), .int .i64 (M.most : Int), (.slice aT M.T.length cT), (.slice aC Cs.length cC), .int .i64 (M.K 0), .int .i64 (M.K 1), .int .i64 (M.K 2), .int .i64 (M.K 3), .int .i64 (M.K 4), .int .i64 (M.K 5), .int .i64 M.who, .int .i64 M.e] 84) := hw1
  rw [<- hw1', <- hA]
  have hAw : w.heap.size <= A := by omega
  clear hA hw1 hw1' m0 m1 m2 m3 m4 m5 m6 m7 m8 m9 m10 m11 m12 m13
  have n0 := hM1.p1
  have n1 := hM1.p2
  have n2 := hM1.p3
  go_wp2_with fail
  refine hcp.mono ?_
  rintro e w2 ⟨u1, u2, u3, rfl, hO2, hb2⟩
  have hP2 := hO2.at hI.fit
  have hAl : A < w1.heap.size := hH1.lt
  have hH2 := Blk.later hH1 hb2 hH1.lt
  have hb02 : Below w.heap.size w w2 := below_nx hb1 hb2 (Nat.le_refl _)
  obtain ⟨d1, f1, rfl⟩ := hP2.caps.slice
  obtain ⟨d2, f2, rfl⟩ := hP2.codes.slice
  obtain ⟨d3, f3, rfl⟩ := hP2.sites.slice
  have x0 : w2.cell? ⟨A, 0, none⟩ = some (.slice a1 M.p.caps.length c1) := Blk.cell hH2 rfl
  have x1 : w2.cell? ⟨A, 1, none⟩ = some (.slice a2 M.p.codes.length c2) := Blk.cell hH2 rfl
  have x2 : w2.cell? ⟨A, 2, none⟩ = some (.slice a3 M.p.sites.length c3) := Blk.cell hH2 rfl
  have xf := hH2.frozen
  clear n0 n1 n2 hcp
  go_upto_region 5 with fail
  obtain ⟨w3, hw3⟩ : ∃ w3, w3 = ((w2.setCell ⟨A, 0, none⟩ (.slice d1 M.p.caps.length f1)).setCell ⟨A, 1, none⟩ (.slice d2 M.p.codes.length f2)).setCell ⟨A, 2, none⟩ (.slice d3 M.p.sites.length f3) := ⟨_, rfl⟩
  have hF3 : Frm (fun k => k = A) w2 w3 := by
    rw [hw3]
    exact Mch.Frm.trans_new (Mch.Frm.trans_new (Mch.Frm.set (F := fun k => k = A) (p := ⟨A, 0, none⟩) w2 _ rfl) (Mch.Frm.set (F := fun k => k = A) (p := ⟨A, 1, none⟩) _ _ rfl) (fun i hi => .inl hi)) (Mch.Frm.set (F := fun k => k = A) (p := ⟨A, 2, none⟩) _ _ rfl) (fun i hi => .inl hi)
  have hH3 : Blk w3 A 84 (mdCells (.slice d1 M.p.caps.length f1) (.slice d2 M.p.codes.length f2) (.slice d3 M.p.sites.length f3) (.slice aT M.T.length cT) (.slice aC Cs.length cC) M) := by
    rw [hw3]
    have := ((hH2.set 0 (.slice d1 M.p.caps.length f1)).set 1 (.slice d2 M.p.codes.length f2)).set 2 (.slice d3 M.p.sites.length f3)
    simpa [mdCells] using this
  have hP3 : PrgAt w1.heap.size w2.heap.size w3 (.slice d1 M.p.caps.length f1) (.slice d2 M.p.codes.length f2) (.slice d3 M.p.sites.length f3) M.p := hP2.stay (fun b h1 h2 => hF3.block b h2 (by omega)) hF3.size
  have hb03 : Below w.heap.size w w3 := frm_low hb02 hF3 (fun k e => by omega)
  rw [<- hw3]
  clear hw3 x0 x1 x2 xf hH2 hP2 hO2
  have hM3 := hM.below hb03
  have n4 := hM3.tk
  have hcl := cloneP_any w3 hM3.tasks (by have := hI.t32; omega)
  go_wp2_with fail
  refine hcl.mono ?_
  rintro e w4 ⟨vT', rfl, hT4, hb4⟩
  obtain ⟨e1, g1, rfl⟩ := owns_slice' hT4
  have hH4 := Blk.later hH3 hb4 hH3.lt
  have hAl3 : A < w3.heap.size := hH3.lt
  have x4 : w4.cell? ⟨A, 4, none⟩ = some (.slice aT M.T.length cT) := Blk.cell hH4 rfl
  have x5 : w4.cell? ⟨A, 5, none⟩ = some (.slice aC Cs.length cC) := Blk.cell hH4 rfl
  have xf := hH4.frozen
  clear n4 hcl
  go_upto_region 7 with fail
  obtain ⟨w5, hw5⟩ : ∃ w5, w5 = (w4.setCell ⟨A, 4, none⟩ (.slice e1 M.T.length g1)).setCell ⟨A, 5, none⟩ (.slice none 0 0) := ⟨_, rfl⟩
  have hF5 : Frm (fun k => k = A) w4 w5 := by
    rw [hw5]
    exact Mch.Frm.trans_new (Mch.Frm.set (F := fun k => k = A) (p := ⟨A, 4, none⟩) w4 _ rfl) (Mch.Frm.set (F := fun k => k = A) (p := ⟨A, 5, none⟩) _ _ rfl) (fun i hi => .inl hi)
  have hH5 : Blk w5 A 84 (mdCells (.slice d1 M.p.caps.length f1) (.slice d2 M.p.codes.length f2) (.slice d3 M.p.sites.length f3) (.slice e1 M.T.length g1) (.slice none 0 0) M) := by
    rw [hw5]
    have := (hH4.set 4 (.slice e1 M.T.length g1)).set 5 (.slice none 0 0)
    simpa [mdCells] using this
  have hP5 : PrgAt w1.heap.size w2.heap.size w5 (.slice d1 M.p.caps.length f1) (.slice d2 M.p.codes.length f2) (.slice d3 M.p.sites.length f3) M.p := by
    have h4 := hP3.later hb4
    exact h4.stay (fun b h1 h2 => hF5.block b (Nat.lt_of_lt_of_le h2 h4.top) (by omega)) (Nat.le_trans h4.top hF5.size)
  have hTge : ∀ g, (Value.slice e1 M.T.length g1).ownBlock = some g -> w3.heap.size <= g := fun g e => Mch.owns_ge hT4 g e
  have hT5 : w5.ownsRow 0 52 11 (.slice e1 M.T.length g1) M.T.length (flatP M.T) := keep_row (Mch.owns_zero hT4) hF5 (fun g e hg => by have := hTge g e; omega)
  have hb05 : Below w.heap.size w w5 := frm_low (hb03.trans (hb4.mono hb03.size)) hF5 (fun k e => by omega)
  have hs23 : w2.heap.size <= w3.heap.size := hF3.size
  have hs12 : w1.heap.size <= w2.heap.size := hb2.size
  have hTlt : ∀ g, (Value.slice e1 M.T.length g1).ownBlock = some g -> g < w5.heap.size := fun g e => by
    rcases hT5.2 with ⟨h0, _⟩ | ⟨g', cap, cur, h0, _, hb, _⟩
    · rw [h0] at e; simp [Value.ownBlock] at e
    · rw [h0] at e; obtain rfl : g' = g := by simpa [Value.ownBlock] using e
      exact (Array.getElem?_eq_some_iff.1 hb).1
  have hP5t := hP5.top
  have hA5 : A < w5.heap.size := hH5.lt
  rw [<- hw5]
  clear hw5 x4 x5 xf hF5 hT4 hb4 hH4 hP3 hF3 hH3 hb02 hb2 hM1 hb1 hM3
  have hM5 := hM.below hb05
  have p5 := hM5.cn
  have hCl := hM.len
  obtain ⟨n, hn⟩ : ∃ n, n = Cs.length := ⟨_, rfl⟩
  have hn6 : n <= 6 := by have := hI.c6; omega
  have HN : Hid (n = M.C.length) := Lib.hid (hn.trans hCl)
  rw [<- hn] at p5
  clear hn hCl hM5
  go_wp2_with fail
  go_loopw [28] (fun iv wr => ∃ j : Nat, j <= n /\ iv = .int .i64 (j : Int) /\ ∃ o1 v Ds, ChRow wr o1 v Ds (M.C.take j) /\ Blk wr A 84 (mdCells (.slice d1 M.p.caps.length f1) (.slice d2 M.p.codes.length f2) (.slice d3 M.p.sites.length f3) (.slice e1 M.T.length g1) v M) /\ Frm (fun k => k = A \/ w5.heap.size <= k) w5 wr /\ (∀ k, o1 k ≠ 0 -> w5.heap.size <= k)) (fun iv _ => n - (intOf iv).toNat)
  case atStart => exact ⟨0, by omega, rfl, _, _, _, by simpa using ChRow.nil w5, hH5, Frm.refl _ _, fun k hk => absurd rfl hk⟩
  case round =>
    obtain ⟨j, hj, rfl, o1, v, Ds, hR, hH, hF, hnew⟩ := hrel
    have hbr : Below w.heap.size w wr := frm_low hb05 hF (fun k e => by have := hb05.size; omega)
    by_cases hlt : j < n
    · have hlt' : (j : Int) < (n : Int) := by omega
      have q2 : (0 : Int) <= (j : Int) := by omega
      have q6 : (j : Int) < 6 := by omega
      have hwr : IntKind.i64.wrap ((j : Int) + 1) = (j : Int) + 1 := by rw [IntKind.wrap_i64]; omega
      have hjC : j < M.C.length := by rw [<- HN.out]; exact hlt
      have hch := fun (W : World) (hW : Below wr.heap.size wr W) => chan_any j W ((h.below hbr).below hW) hjC (hI.wl _).1 (hI.wl _).2
      obtain ⟨av, cv, rfl⟩ := owns_slice' hR.row
      obtain ⟨nD, hnD⟩ : ∃ nD, nD = Ds.length := ⟨_, rfl⟩
      have hnDj : nD <= 6 := by have h1 := hR.len; rw [List.length_take] at h1; omega
      have HD := Lib.hid hnD
      rw [<- hnD] at hR hH
      clear hnD
      have xA : wr.cell? ⟨A, 5, none⟩ = some (.slice av nD cv) := Blk.cell hH rfl
      have xAd : wr.drew.cell? ⟨A, 5, none⟩ = some (.slice av nD cv) := xA
      have r0 : Below wr.heap.size wr wr.drew := (Below.refl _ _).drew
      have hAr : A < wr.heap.size := hH.lt
      have hRrow := hR.row
      rw [<- HD.out] at hRrow
      have hAv : (Value.slice av nD cv).ownBlock ≠ some A := fun e => by have h1 := hR.own A e; have h2 := hnew A (by omega); omega
      go_upto_region 10 with fail
      go_region_law (first
        | (refine step_append_at rfl (.tmp 32) (.tmp 36) 76 rfl 0 63 i0 (.pointer none) 1 8 Tryz.underlying76 hi hz0 hz1 hz2 rfl (by decide) (.slice av nD cv) nD (Ds.map ptrV) rfl hrow2 ⟨w6.heap.size, 0, none⟩ 1 1 [ptrV D] rfl rfl hcl2 hone (by unfold maxLen; omega) (by omega) (Nat.zero_le _) ?_
           intro v7 w7 hown7 hg7 hat7
           obtain ⟨g7, cap7, rfl⟩ := ownsRow_succ hown7
           have hH7 := hbk w7 hg7
           have z5 : w7.cell? ⟨A, 5, none⟩ = some (.slice av nD cv) := Blk.cell hH7 rfl
           have zf := hH7.frozen)
        | (go_simp; refine (hch _ r0).mono ?_; rintro e w6 ⟨D, rfl, hD6, hb6⟩
           have hb6' : Below wr.heap.size wr w6 := r0.trans (hb6.mono r0.size)
           have hrow2 : (w6.alloc (.cells #[ptrV D] 63)).ownsRow 0 63 1 (.slice av nD cv) nD (Ds.map ptrV) := (owns_fresh hRrow hb6').alloc _
           have hcl2 : ∀ (k : Nat) (u : Value), ([ptrV D] : List Value)[k]? = some u -> (w6.alloc (.cells #[ptrV D] 63)).cell? (Addr.add ⟨w6.heap.size, 0, none⟩ k) = some u := fun k u hk => by
             rw [add0]; exact Blk.cell (blk_new w6 63 #[ptrV D]) (by simpa using hk)
           have hone : ∀ u ∈ ([ptrV D] : List Value), u.oneCell' = true := by simp [Value.oneCell']
           have hH6 := (Blk.later hH hb6' hAr).alloc (.cells #[ptrV D] 63)
           have hA6 : A < (w6.alloc (.cells #[ptrV D] 63)).heap.size := hH6.lt
           have hbk : ∀ w7, (w6.alloc (.cells #[ptrV D] 63)).grownBy w7 (Value.slice av nD cv).ownBlock -> Blk w7 A 84 _ := fun w7 hg => (hg.block A hA6 (fun e => hAv e.symm)).trans hH6
           have y5 : w6.cell? ⟨A, 5, none⟩ = some (.slice av nD cv) := Blk.cell (Blk.later hH hb6' hAr) rfl
           have y6 : (w6.alloc (.cells #[ptrV D] 63)).cell? ⟨A, 5, none⟩ = some (.slice av nD cv) := Blk.cell hH6 rfl))
      all_goals
        have hD6' : Chn w6 (fun k => wr.heap.size <= k) D (M.ch (j : Int)).m (M.ch (j : Int)).cl (M.ch (j : Int)).buf (M.ch (j : Int)).S (M.ch (j : Int)).R := hD6
        obtain ⟨⟨o2, hR2, hn2⟩, hF2⟩ := row_round (v7 := .slice (some ⟨g7, 0, none⟩) (nD + 1) cap7) hR hnew (by have := hF.size; exact this) hD6' hb6' hg7 (by rw [<- HD.out]; exact hown7) hat7
        have hF3 : Frm (fun k => k = A) w7 (w7.setCell ⟨A, 5, none⟩ (.slice (some ⟨g7, 0, none⟩) (nD + 1) cap7)) := Mch.Frm.set (F := fun k => k = A) (p := ⟨A, 5, none⟩) w7 _ rfl
        have hR3 := hR2.kept hF3 (fun k e => by by_cases h0 : o2 k = 0; exact h0; have := hn2 k h0; omega)
        have hH3 : Blk (w7.setCell ⟨A, 5, none⟩ (.slice (some ⟨g7, 0, none⟩) (nD + 1) cap7)) A 84 (mdCells (.slice d1 M.p.caps.length f1) (.slice d2 M.p.codes.length f2) (.slice d3 M.p.sites.length f3) (.slice e1 M.T.length g1) (.slice (some ⟨g7, 0, none⟩) (nD + 1) cap7) M) := by
          have := hH7.set 5 (.slice (some ⟨g7, 0, none⟩) (nD + 1) cap7)
          simpa [mdCells] using this
        have hF4 : Frm (fun k => k = A \/ w5.heap.size <= k) w5 (w7.setCell ⟨A, 5, none⟩ (.slice (some ⟨g7, 0, none⟩) (nD + 1) cap7)) := Mch.Frm.trans_new (Mch.Frm.trans_new hF (hF2.mono (fun k e => .inr e)) (fun i hi => .inl hi)) (hF3.mono (fun k e => .inl e)) (fun i hi => .inl hi)
        rw [show M.C.take j ++ [M.ch (j : Int)] = M.C.take (j + 1) from (take_snoc' M.C (chan_at hjC)).symm] at hR3
        have hn3 := hn2
        generalize w7.setCell ⟨A, 5, none⟩ (.slice (some ⟨g7, 0, none⟩) (nD + 1) cap7) = w8 at hR3 hH3 hF4 ⊢
        clear hR hR2 hF2 hF3 hH7 hown7 hg7 hat7 hbk hrow2 hcl2 hone hH6 hA6 y5 y6 z5 zf hD6 hD6' hb6 hb6' hch xA xAd hRrow hAv hH hF hnew
        go_wp2_with fail
        go_roundw
        case rel => exact ⟨j + 1, by omega, by go_num, o2, _, _, hR3, hH3, hF4, hn3⟩
        case measure => simp [intOf]; omega
    · obtain rfl : j = n := by omega
      have hTk : M.C.take j = M.C := List.take_of_length_le (by rw [HN.out]; exact Nat.le_refl _)
      rw [hTk] at hR
      have hP9 := hP5.stay (fun b h1 h2 => hF.block b (by omega) (fun e => by omega)) (Nat.le_trans hP5t hF.size)
      have hT9 := keep_row hT5 hF (fun g e hg => by have h1 := hTge g e; have h2 := hTlt g e; omega)
      have hA9 : o1 A = 0 := by by_cases h0 : o1 A = 0; exact h0; have := hnew A h0; omega
      have hz : ∀ k, k < w5.heap.size -> o1 k = 0 := fun k hk => by by_cases h0 : o1 k = 0; exact h0; have := hnew k h0; omega
      have hMd := md_made hH hP9 hT9 hR hA9 (fun k h1 h2 => ⟨hz k (by omega), by omega⟩) (fun g e => ⟨hz g (hTlt g e), by have := hTge g e; omega, by have := hTge g e; omega⟩)
      have hNew := asm_new (o1 := o1) (vT := .slice e1 M.T.length g1) (A := A) (lo := w1.heap.size) (hi := w2.heap.size) (b := w.heap.size) hAw (by omega) (fun g e => by have := hTge g e; omega) (fun k hk => Nat.le_trans hb05.size (hnew k hk))
      clear hP9 hT9 hA9 hz hH hR hF hTk hP5 hT5 hTge hTlt hM h
      go_wp2_with fail
      go_ret
      exact ⟨A, rfl, ⟨_, hMd, hNew⟩, hbr⟩
end Go.Proofs.YtdijhgaaeifbfaaGreat.Mdl
