/-
  ModelMoves: its walks, part 24: DTasks DTask DCount.
-/
import Derived.Test.YtdijhgaaeifbfaaGreatQ00
import Derived.Test.YtdijhgaaeifbfaaGreatQ23
set_option maxRecDepth 100000
set_option maxHeartbeats 12800000
namespace Go.Proofs.YtdijhgaaeifbfaaGreat.Mdl
open Go.RowKit Go.Shelf
open Ent (En)
open Mch (Wt Gt whatK putL Chn Frm Fw Fl grown_below below1 below_nx owns_slice' boxed_below)
attribute [local go_sem] Oper.semAt_some
section
variable {o : Nat -> Nat} {B : Nat} {M : Mod}
def Mod.fw (M : Mod) : Int := if M.e = 0 then -1 else M.who
theorem halted_any (w : World) (h : Md w o B M) : Calls Tryz.prog 29 #[ptrV B] w fun e w' => e = .returned (.bool (M.e != 0)) /\ w' = w := by
  obtain ⟨lo, hi, v1, v2, v3, vT, vC, Cs, h⟩ := h
  have he := h.er
  clear h
  go_enter Tryz.func29, Tryz.ntmps29
  go_wp2_with fail
  go_ret
  exact ⟨rfl, rfl⟩
theorem all_any (p : Option Addr) (w : World) :
    Calls Tryz.prog 30 #[.pointer p] w fun e w' => e = .returned (.func (.func 58) #[] #[.pointer (some ⟨w.heap.size, 0, none⟩)]) /\ w' = w.alloc (.cells #[.pointer p] 35) := by
  go_enter Tryz.func30, Tryz.ntmps30
  go_wp2_with fail
  go_ret
  exact ⟨rfl, rfl⟩
theorem mfault_any (w : World) (h : Md w o B M) : Calls Tryz.prog 9 #[ptrV B] w fun e w' => e = .returned (.tuple #[.int .i64 (Mod.fw M), .int .i64 M.e]) /\ Below w.heap.size w w' := by
  have hh := halted_any w h
  obtain ⟨lo, hi, v1, v2, v3, vT, vC, Cs, h⟩ := h
  have c1 := h.wh
  have c2 := h.er
  have d1 : w.drew.cell? ⟨B, 12, none⟩ = some (.int .i64 M.who) := c1
  have d2 : w.drew.cell? ⟨B, 13, none⟩ = some (.int .i64 M.e) := c2
  obtain ⟨x, hx⟩ : ∃ x, x = M.e := ⟨_, rfl⟩
  obtain ⟨y, hy⟩ : ∃ y, y = Mod.fw M := ⟨_, rfl⟩
  rw [<- hx] at hh c2 d2 ⊢
  rw [<- hy]
  clear h
  by_cases h0 : x = 0
  · have HY : Hid (y = -1) := Lib.hid (by rw [hy, Mod.fw, if_pos (by rw [<- hx]; exact h0)])
    subst h0
    clear hx hy
    go_enter Tryz.func9, Tryz.ntmps9
    go_wp2_with fail
    refine hh.mono ?_
    rintro e w' ⟨rfl, rfl⟩
    go_wp2_with fail
    go_ret2
    exact ⟨by rw [HY.out]; rfl, Below.refl _ _⟩
  · have hb : (x != 0) = true := by simpa using h0
    have HY : Hid (y = M.who) := Lib.hid (by rw [hy, Mod.fw, if_neg (by rw [<- hx]; exact h0)])
    rw [hb] at hh
    clear h0 hb hx hy
    go_enter Tryz.func9, Tryz.ntmps9
    go_wp2_with fail
    refine hh.mono ?_
    rintro e w' ⟨rfl, rfl⟩
    go_wp2_with fail
    go_quiet (fail)
    go_wp2_with fail
    go_ret2
    exact ⟨by rw [HY.out]; rfl, below_drewN (Below.refl _ _) _⟩
end
def enumT (T : List Pla) : List (Nat × Pla) := T.zipIdx.map fun p => (p.2, p.1)
theorem enumT_len (T : List Pla) : (enumT T).length = T.length := by simp [enumT]
theorem enumT_at (T : List Pla) (j : Nat) : (enumT T)[j]? = T[j]?.map fun x => (j, x) := by
  unfold enumT
  rw [List.getElem?_map, List.getElem?_zipIdx]
  cases T[j]? <;> simp
def encT (x : Nat × Pla) : Array Value := #[.int .i64 (x.1 : Int), plaV x.2]
theorem take_snocT (T : List Pla) {j : Nat} {x : Pla} (h : T[j]? = some x) : (enumT T).take (j + 1) = (enumT T).take j ++ [(j, x)] := by
  rw [List.take_add_one, enumT_at, h]; rfl
theorem rowP_at {W : World} {b : Nat} {v : Value} {xs : List Pla} (h : W.ownsRow b 52 11 v xs.length (flatP xs)) {j : Nat} {x : Pla} (hj : xs[j]? = some x) :
    ∃ g cap, v = .slice (some ⟨g, 0, none⟩) xs.length cap /\ W.cell? ⟨g, j * 11, none⟩ = some (.int .u8 (x.s : Int)) /\ W.cell? ⟨g, j * 11 + 1, none⟩ = some (.int .i64 x.f.c)
 /\ W.cell? ⟨g, j * 11 + 2, none⟩ = some (.int .i64 x.f.p)
 /\ W.cell? ⟨g, j * 11 + 3, none⟩ = some (.int .i64 x.f.r0)
 /\ W.cell? ⟨g, j * 11 + 4, none⟩ = some (.int .i64 x.f.r1)
 /\ W.cell? ⟨g, j * 11 + 5, none⟩ = some (.int .i64 x.f.r2)
 /\ W.cell? ⟨g, j * 11 + 6, none⟩ = some (.int .i64 x.f.r3)
 /\ W.cell? ⟨g, j * 11 + 7, none⟩ = some (.int .i64 x.f.r4)
 /\ W.cell? ⟨g, j * 11 + 8, none⟩ = some (.int .i64 x.f.r5)
 /\ W.cell? ⟨g, j * 11 + 9, none⟩ = some (.int .i64 x.f.r6)
 /\ W.cell? ⟨g, j * 11 + 10, none⟩ = some (.int .i64 x.f.r7)
 := by
  have hi' := (List.getElem?_eq_some_iff.1 hj).1
  rcases id h.2 with ⟨_, h0⟩ | ⟨g, cap, cur, hv, _, _⟩
  · omega
  have key : ∀ k u, k < 11 -> x.cellsL[k]? = some u -> W.cell? ⟨g, j * 11 + k, none⟩ = some u := fun k u hk hu => by
    have := h.cells (g := g) (by rw [hv]; rfl) (j * 11 + k) u (by rw [flatP, flat_get Pla.cellsL 11 pla_len _ _ _ hk, hj]; exact hu)
    rw [add0] at this
    exact this
  exact ⟨g, cap, hv, key 0 _ (by omega) rfl, key 1 _ (by omega) rfl, key 2 _ (by omega) rfl, key 3 _ (by omega) rfl, key 4 _ (by omega) rfl, key 5 _ (by omega) rfl, key 6 _ (by omega) rfl, key 7 _ (by omega) rfl, key 8 _ (by omega) rfl, key 9 _ (by omega) rfl, key 10 _ (by omega) rfl⟩
theorem all1_in (n : Nat) (hn : 2 <= n) (l Bm B : Nat) (v : Value) (T : List Pla) (w0 : World) (J Jx : List (Nat × Pla) -> World -> Prop)
    (hY : ∀ pre (x : Nat × Pla) W, J pre W -> pre.length < 1000 -> YieldAt Fence.wide (n - 1) Tryz.prog l (encT x) W fun e W' =>
      (e = .returned (.bool true) /\ J (pre ++ [x]) W' /\ Below w0.heap.size W W') \/ (e = .returned (.bool false) /\ Jx (pre ++ [x]) W'))
    (W : World) (hBm : Boxed W Bm 35 (ptrV B)) (hcell : W.cell? ⟨B, 4, none⟩ = some v) (hrow : w0.ownsRow 0 52 11 v T.length (flatP T)) (hl : T.length <= 1000)
    (hW : Below w0.heap.size w0 W) (hJ : AbidesFrom W.heap.size J) (h0 : J [] W) :
    CallsIn Fence.wide n Tryz.prog 58 #[.func (.yield l) #[] #[], .pointer (some ⟨Bm, 0, none⟩)] W fun e W' => (∃ v, e = .returned v) /\
      ((∃ ys, ys = enumT T /\ J ys W') \/ (∃ pre, pre <+: enumT T /\ Jx pre W')) := by
  have hcc := hBm.cell
  obtain ⟨a, c, rfl⟩ := owns_slice' hrow
  refine callsIn_of_wp Tryz.func58 rfl trivial ?_ rfl
  simp only [Tryz.ntmps58, List.size_toArray, List.length_cons, List.length_nil, Nat.reduceAdd, Nat.reduceSub, Array.replicate_succ, Array.replicate_zero, List.push_toArray, List.append_toArray, List.nil_append, List.cons_append]
  gi_wp2
  gi_loopw [12] (fun iv wr => ∃ j : Nat, j <= T.length /\ iv = .int .i64 j /\ J ((enumT T).take j) wr /\ Below w0.heap.size w0 wr) (fun iv _ => T.length - (intOf iv).toNat)
  case atStart => exact ⟨0, Nat.zero_le _, rfl, h0, hW⟩
  case round =>
    clear hcc hcell h0 hW
    obtain ⟨j, hj, rfl, hJi, hWr⟩ := hrel
    by_cases hlt : j < T.length
    · have hlt' : (j : Int) < (T.length : Int) := by omega
      have q0 : (0 : Int) <= (j : Int) := by omega
      obtain ⟨x, hxj⟩ : ∃ x, T[j]? = some x := ⟨_, List.getElem?_eq_getElem hlt⟩
      have hrw := hrow.kept (grown_below hWr) (by cases (Value.slice a T.length c).ownBlock <;> simp)
      obtain ⟨g, cap, he, x0, x1, x2, x3, x4, x5, x6, x7, x8, x9, x10⟩ := rowP_at hrw hxj
      obtain ⟨rfl, rfl⟩ : a = some ⟨g, 0, none⟩ /\ c = cap := by cases he; exact ⟨rfl, rfl⟩
      have HT := Lib.hid (take_snocT T hxj)
      have HP : Hid ((enumT T).take (j + 1) <+: enumT T) := Lib.hid (List.take_prefix _ _)
      have hb1 := below1 wr (.cells (plaA x) 52)
      have hJ1 := hJ _ _ _ none hJi (grown_below hb1) (fun r e => by cases e)
      have hW1 := below_nx hWr hb1 (Nat.le_refl _)
      have hlen : ((enumT T).take j).length < 1000 := by rw [List.length_take]; omega
      obtain ⟨fn, tmps, assign, body, hy, hR⟩ := hY _ (j, x) _ hJ1 hlen
      unfold encT at hy
      clear hxj hJi hrw he hlen hJ1 hb1
      gi_wp2
      refine ⟨fun _ => by omega, hR.mono ?_⟩
      clear hy hR
      rintro e W3 (⟨rfl, hJ3, hK⟩ | ⟨rfl, hJx3⟩)
      · have hW3 := hW1.trans hK
        gi_wp2
        go_roundw
        case rel => exact ⟨j + 1, by omega, by go_num, by rw [HT.out]; exact hJ3, hW3⟩
        case measure => simp [intOf]; omega
      · gi_wp2
        refine bodyPost_ret (results_none rfl _ _ _) rfl ?_
        exact ⟨⟨_, rfl⟩, .inr ⟨_, by rw [<- HT.out]; exact HP.out, hJx3⟩⟩
    · obtain rfl : j = T.length := by omega
      rw [List.take_of_length_le (by rw [enumT_len]; omega)] at hJi
      gi_wp2
      go_end0
      exact ⟨⟨_, rfl⟩, .inl ⟨_, rfl, hJi⟩⟩
theorem all_stops {w w0 : World} {Bm B : Nat} {v : Value} {T : List Pla} (hBm : Boxed w Bm 35 (ptrV B))
    (hcell : w0.cell? ⟨B, 4, none⟩ = some v) (hrow : w0.ownsRow 0 52 11 v T.length (flatP T)) (hl : T.length <= 1000) (hW : Below w0.heap.size w0 w) :
    SeqStopsK Fence.wide 3 Tryz.prog 58 #[.pointer (some ⟨Bm, 0, none⟩)] encT (Below w0.heap.size) (fun ys => ys = enumT T) (fun pre => pre <+: enumT T) 1000 w :=
  fun l J Jx W hW2 hJ _ hY h0 => all1_in 3 (by omega) l Bm B v T w0 J Jx hY W (boxed_below hBm hW2)
    (Mch.hcell_below hcell hW hW2) hrow hl (below_nx hW hW2 (Nat.le_refl _)) hJ h0
open Go.RowKit Go.Shelf
open Ent (En)
open Mch (Wt Gt whatK putL Chn Frm Fw Fl grown_below below1 below_nx owns_slice' boxed_below)
attribute [local go_sem] Oper.semAt_some
theorem rows11 {α : Type} (x0 x1 x2 x3 x4 x5 x6 x7 x8 x9 x10 a0 a1 a2 a3 a4 a5 a6 a7 a8 a9 a10 : α) : ((((((((((((#[x0, x1, x2, x3, x4, x5, x6, x7, x8, x9, x10] : Array α).setIfInBounds 0 a0).setIfInBounds 1 a1).setIfInBounds 2 a2).setIfInBounds 3 a3).setIfInBounds 4 a4).setIfInBounds 5 a5).setIfInBounds 6 a6).setIfInBounds 7 a7).setIfInBounds 8 a8).setIfInBounds 9 a9).setIfInBounds 10 a10) = #[a0, a1, a2, a3, a4, a5, a6, a7, a8, a9, a10] := by simp
theorem sto11 {W : World} {B : Nat} {t : TypeId} {x0 x1 x2 x3 x4 x5 x6 x7 x8 x9 x10 : Value} (h : Blk W B t #[x0, x1, x2, x3, x4, x5, x6, x7, x8, x9, x10]) (a0 a1 a2 a3 a4 a5 a6 a7 a8 a9 a10 : Value) :
    Blk (((((((((((W.setCell ⟨B, 0, none⟩ (a0)).setCell ⟨B, 1, none⟩ (a1)).setCell ⟨B, 2, none⟩ (a2)).setCell ⟨B, 3, none⟩ (a3)).setCell ⟨B, 4, none⟩ (a4)).setCell ⟨B, 5, none⟩ (a5)).setCell ⟨B, 6, none⟩ (a6)).setCell ⟨B, 7, none⟩ (a7)).setCell ⟨B, 8, none⟩ (a8)).setCell ⟨B, 9, none⟩ (a9)).setCell ⟨B, 10, none⟩ (a10)) B t #[a0, a1, a2, a3, a4, a5, a6, a7, a8, a9, a10] /\ But [B] W (((((((((((W.setCell ⟨B, 0, none⟩ (a0)).setCell ⟨B, 1, none⟩ (a1)).setCell ⟨B, 2, none⟩ (a2)).setCell ⟨B, 3, none⟩ (a3)).setCell ⟨B, 4, none⟩ (a4)).setCell ⟨B, 5, none⟩ (a5)).setCell ⟨B, 6, none⟩ (a6)).setCell ⟨B, 7, none⟩ (a7)).setCell ⟨B, 8, none⟩ (a8)).setCell ⟨B, 9, none⟩ (a9)).setCell ⟨B, 10, none⟩ (a10)) := by
  have hm : B ∈ [B] := by simp
  refine ⟨?_, ((((((((((((But.refl [B] W).set (.inl hm) _).set (.inl hm) _).set (.inl hm) _).set (.inl hm) _).set (.inl hm) _).set (.inl hm) _).set (.inl hm) _).set (.inl hm) _).set (.inl hm) _).set (.inl hm) _).set (.inl hm) _)⟩
  rw [<- rows11 x0 x1 x2 x3 x4 x5 x6 x7 x8 x9 x10 a0 a1 a2 a3 a4 a5 a6 a7 a8 a9 a10]
  exact (((((((((((h.set 0 a0).set 1 a1).set 2 a2).set 3 a3).set 4 a4).set 5 a5).set 6 a6).set 7 a7).set 8 a8).set 9 a9).set 10 a10)
structure Tkr (W : World) (n : Nat) (t : Int) (x : Pla) (b : Bool) : Prop where
  tb : Boxed W n 3 (.int .i64 t)
  it : PlAt W (n + 1) x
  is : Boxed W (n + 2) 4 (.bool b)
theorem Tkr.below {W W' : World} {n : Nat} {t : Int} {x : Pla} {b : Bool} (h : Tkr W n t x b) (hb : Below W.heap.size W W') : Tkr W' n t x b := ⟨boxed_below h.tb hb, h.it.later hb h.it.lt, boxed_below h.is hb⟩
def setTk (W : World) (n : Nat) (y : Pla) (c : Bool) : World := (((((((((((W.setCell ⟨(n + 1), 0, none⟩ (.int .u8 (y.s : Int))).setCell ⟨(n + 1), 1, none⟩ (.int .i64 y.f.c)).setCell ⟨(n + 1), 2, none⟩ (.int .i64 y.f.p)).setCell ⟨(n + 1), 3, none⟩ (.int .i64 y.f.r0)).setCell ⟨(n + 1), 4, none⟩ (.int .i64 y.f.r1)).setCell ⟨(n + 1), 5, none⟩ (.int .i64 y.f.r2)).setCell ⟨(n + 1), 6, none⟩ (.int .i64 y.f.r3)).setCell ⟨(n + 1), 7, none⟩ (.int .i64 y.f.r4)).setCell ⟨(n + 1), 8, none⟩ (.int .i64 y.f.r5)).setCell ⟨(n + 1), 9, none⟩ (.int .i64 y.f.r6)).setCell ⟨(n + 1), 10, none⟩ (.int .i64 y.f.r7)).setCell ⟨n + 2, 0, none⟩ (.bool c)
theorem setTk_but (W : World) (n : Nat) (y : Pla) (c : Bool) : But [n + 1, n + 2] W (setTk W n y c) := by
  have h1 : n + 1 ∈ [n + 1, n + 2] := by simp
  have h2 : n + 2 ∈ [n + 1, n + 2] := by simp
  exact ((((((((((((But.refl [n + 1, n + 2] W).set (p := ⟨n + 1, 0, none⟩) (.inl h1) _).set (p := ⟨n + 1, 1, none⟩) (.inl h1) _).set (p := ⟨n + 1, 2, none⟩) (.inl h1) _).set (p := ⟨n + 1, 3, none⟩) (.inl h1) _).set (p := ⟨n + 1, 4, none⟩) (.inl h1) _).set (p := ⟨n + 1, 5, none⟩) (.inl h1) _).set (p := ⟨n + 1, 6, none⟩) (.inl h1) _).set (p := ⟨n + 1, 7, none⟩) (.inl h1) _).set (p := ⟨n + 1, 8, none⟩) (.inl h1) _).set (p := ⟨n + 1, 9, none⟩) (.inl h1) _).set (p := ⟨n + 1, 10, none⟩) (.inl h1) _).set (p := ⟨n + 2, 0, none⟩) (.inl h2) _
theorem Tkr.set {W : World} {n : Nat} {t : Int} {x : Pla} {b : Bool} (h : Tkr W n t x b) (y : Pla) (c : Bool) : Tkr (setTk W n y c) n t y c := by
  have hb := setTk_but W n y c
  obtain ⟨h1, h2⟩ := sto11 h.it (.int .u8 (y.s : Int)) (.int .i64 y.f.c) (.int .i64 y.f.p) (.int .i64 y.f.r0) (.int .i64 y.f.r1) (.int .i64 y.f.r2) (.int .i64 y.f.r3) (.int .i64 y.f.r4) (.int .i64 y.f.r5) (.int .i64 y.f.r6) (.int .i64 y.f.r7)
  refine ⟨hb.boxed h.tb (by simp), ?_, ?_⟩
  · exact h1.beside (p := ⟨n + 2, 0, none⟩) (by simp) _
  · have h3 : Boxed (((((((((((W.setCell ⟨(n + 1), 0, none⟩ (.int .u8 (y.s : Int))).setCell ⟨(n + 1), 1, none⟩ (.int .i64 y.f.c)).setCell ⟨(n + 1), 2, none⟩ (.int .i64 y.f.p)).setCell ⟨(n + 1), 3, none⟩ (.int .i64 y.f.r0)).setCell ⟨(n + 1), 4, none⟩ (.int .i64 y.f.r1)).setCell ⟨(n + 1), 5, none⟩ (.int .i64 y.f.r2)).setCell ⟨(n + 1), 6, none⟩ (.int .i64 y.f.r3)).setCell ⟨(n + 1), 7, none⟩ (.int .i64 y.f.r4)).setCell ⟨(n + 1), 8, none⟩ (.int .i64 y.f.r5)).setCell ⟨(n + 1), 9, none⟩ (.int .i64 y.f.r6)).setCell ⟨(n + 1), 10, none⟩ (.int .i64 y.f.r7)) (n + 2) 4 (.bool b) := h2.boxed h.is (by simp)
    exact h3.set _
theorem setTk_below {W w0 : World} {m n : Nat} (hb : Below m w0 W) (hm : m <= n) (hw : m <= w0.heap.size) (y : Pla) (c : Bool) : Below m w0 (setTk W n y c) :=
  hb.trans ((setTk_but W n y c).below (Nat.le_trans hw hb.size) (by simp; omega))
theorem setTk_others (W : World) (n : Nat) (y : Pla) (c : Bool) : KeepsOthers W (setTk W n y c) := by
  unfold setTk
  exact ((((((((((((KeepsOthers.setCell W ⟨n + 1, 0, none⟩ _).trans (KeepsOthers.setCell _ ⟨n + 1, 1, none⟩ _)).trans (KeepsOthers.setCell _ ⟨n + 1, 2, none⟩ _)).trans (KeepsOthers.setCell _ ⟨n + 1, 3, none⟩ _)).trans (KeepsOthers.setCell _ ⟨n + 1, 4, none⟩ _)).trans (KeepsOthers.setCell _ ⟨n + 1, 5, none⟩ _)).trans (KeepsOthers.setCell _ ⟨n + 1, 6, none⟩ _)).trans (KeepsOthers.setCell _ ⟨n + 1, 7, none⟩ _)).trans (KeepsOthers.setCell _ ⟨n + 1, 8, none⟩ _)).trans (KeepsOthers.setCell _ ⟨n + 1, 9, none⟩ _)).trans (KeepsOthers.setCell _ ⟨n + 1, 10, none⟩ _)).trans (KeepsOthers.setCell _ ⟨n + 2, 0, none⟩ _))
theorem plAt_abides {β : Type} (B : Nat) (f : β -> Pla) (m : Nat) : OwnFrom m (fun (s : β) W => PlAt W B (f s)) := fun s A W' row hs hg hr =>
  (hg.block B hs.lt (fun e => by
    obtain ⟨_, o, ho, hn⟩ := hr B e.symm
    rw [show A.heap[B]? = _ from hs] at ho
    cases ho
    cases hn)).trans hs
theorem tkr_abides {β : Type} (n : Nat) (t : Int) (f : β -> Pla) (b : Bool) (m : Nat) : OwnFrom m (fun (s : β) W => Tkr W n t (f s) b) := fun s W W' row hs hg hr =>
  ⟨Mch.boxed_abides n 3 (fun _ : β => .int .i64 t) m s W W' row hs.tb hg hr, plAt_abides (n + 1) f m s W W' row hs.it hg hr, Mch.boxed_abides (n + 2) 4 (fun _ : β => .bool b) m s W W' row hs.is hg hr⟩
theorem task_end (F0 : Value) (w W : World) (D : Nat) (hD : w.heap.size + 2 < D) (t : Int) (x : Pla) (b : Bool) (t0 t1 t2 t6 t7 t8 t9 t10 t11 t12 t13 t14 t15 t16 : Value)
    (hF : Tkr W w.heap.size t x b) (hB : Below w.heap.size w W) (hK : W.heap[D]? = some (.deferred (some [])))
    (HE : Hid (Value.tuple #[plaV x, .bool b] = F0)) :
    bodyPostM Fence.wide 4 Tryz.prog Tryz.f15 (fun e w' => e = .returned F0 /\ Below w.heap.size w w') .ret
      { tmps := #[t0, t1, t2, .pointer (some ⟨w.heap.size, 0, none⟩), .pointer (some ⟨w.heap.size + 1, 0, none⟩), .pointer (some ⟨w.heap.size + 2, 0, none⟩), t6, t7, t8, t9, t10, t11, t12, t13, t14, t15, t16], defers := [{ target := Target.collected D, args := #[] }] } W := by
  refine ⟨by simp, .inl ⟨_, _, rfl, run_takeDeferred hK, ?_⟩⟩
  have hg := grownBy_putObj' W D (.deferred none)
  have hr : ∀ r, some D = some r -> ∃ o, W.heap[r]? = some o /\ o.isCells = false := fun r e => by cases e; exact ⟨_, hK, rfl⟩
  have a1 := cell_kept hF.is.cell hg hr
  obtain ⟨c0, c1, c2, c3, c4, c5, c6, c7, c8, c9, c10⟩ := pla_cells hF.it

  have d0 := cell_kept c0 hg hr
  have d1 := cell_kept c1 hg hr
  have d2 := cell_kept c2 hg hr
  have d3 := cell_kept c3 hg hr
  have d4 := cell_kept c4 hg hr
  have d5 := cell_kept c5 hg hr
  have d6 := cell_kept c6 hg hr
  have d7 := cell_kept c7 hg hr
  have d8 := cell_kept c8 hg hr
  have d9 := cell_kept c9 hg hr
  have d10 := cell_kept c10 hg hr
  refine ⟨.tuple #[plaV x, .bool b], ?_, by rw [HE.out], hB.trans (belowK_b (w := w) (Nat.le_refl _) _ D _ _ (by omega) hK rfl rfl)⟩
  simp [results, Tryz.f15, go_sem, a1, d0, d1, d2, d3, d4, d5, d6, d7, d8, d9, d10]
theorem task_found {T : List Pla} {pre : List (Nat × Pla)} {x : Nat × Pla} {t : Int} (h : pre ++ [x] <+: enumT T) (ht : (x.1 : Int) = t) : 0 <= t /\ T[t.toNat]? = some x.2 := by
  obtain ⟨r, hr⟩ := h
  have h1 : (enumT T)[pre.length]? = some x := by rw [<- hr]; simp
  rw [enumT_at] at h1
  cases hT : T[pre.length]? with
  | none => rw [hT] at h1; cases h1
  | some y =>
    rw [hT] at h1
    simp only [Option.map_some, Option.some.injEq] at h1
    subst h1
    simp only at ht
    subst ht
    exact ⟨by omega, by rw [Int.toNat_natCast]; exact hT⟩
theorem task_not {T : List Pla} {t : Int} (h : ∀ x ∈ enumT T, (x.1 : Int) ≠ t) (h0 : 0 <= t) : T[t.toNat]? = none := by
  cases hT : T[t.toNat]? with
  | none => rfl
  | some y =>
    refine absurd ?_ (h (t.toNat, y) (List.mem_of_getElem? (i := t.toNat) (by rw [enumT_at, hT]; rfl)))
    simp only
    omega
theorem task_any {o : Nat -> Nat} {B : Nat} {M : Mod} (t : Int) (w : World) (h : Md w o B M) (hl : M.T.length <= 1000) :
    Calls Tryz.prog 15 #[ptrV B, .int .i64 t] w fun e w' => e = .returned (.tuple #[plaV ((M.task t).getD Pla.zero), .bool (M.task t).isSome]) /\ Below w.heap.size w w' := by
  obtain ⟨lo, hi, v1, v2, v3, vT, vC, Cs, h⟩ := h
  have hcell := h.tk
  have hrow := h.tasks
  obtain ⟨T, hT⟩ : ∃ T, T = M.T := ⟨_, rfl⟩
  obtain ⟨F0, hF0⟩ : ∃ F0, F0 = Value.tuple #[plaV ((M.task t).getD Pla.zero), .bool (M.task t).isSome] := ⟨_, rfl⟩
  have HF : Hid (F0 = Value.tuple #[plaV ((if 0 <= t then T[t.toNat]? else none).getD Pla.zero), .bool (if 0 <= t then T[t.toNat]? else none).isSome]) := Lib.hid (by rw [hF0, hT]; rfl)
  rw [<- hF0]
  rw [<- hT] at hrow hl
  clear hF0 hT h
  obtain ⟨w2, hw2⟩ : ∃ w2, w2 = ((w.alloc (.cells #[.int .i64 t] 3)).alloc (.cells (plaA Pla.zero) 52)).alloc (.cells #[.bool false] 4) := ⟨_, rfl⟩
  have hF2 : Tkr w2 w.heap.size t Pla.zero false := by
    rw [hw2]
    have h1 := blk_new (w.alloc (.cells #[.int .i64 t] 3)) 52 (plaA Pla.zero)
    have h2 := Boxed.new ((w.alloc (.cells #[.int .i64 t] 3)).alloc (.cells (plaA Pla.zero) 52)) 4 (.bool false)
    rw [World.size_alloc] at h1 h2
    rw [World.size_alloc] at h2
    exact ⟨((Boxed.new w _ _).alloc _).alloc _, h1.alloc _, h2⟩
  have hB2 : Below w.heap.size w w2 := by rw [hw2]; exact below3 w _ _ _
  obtain ⟨w4, hw4⟩ : ∃ w4, w4 = w2.alloc (.cells #[ptrV B] 35) := ⟨_, rfl⟩
  have hb24 : Below w2.heap.size w2 w4 := by rw [hw4]; exact below1 w2 _
  have hc4 : Boxed w4 w2.heap.size 35 (ptrV B) := by rw [hw4]; exact Boxed.new w2 _ _
  have hB4 := below_nx hB2 hb24 (Nat.le_refl _)
  have hF4 := hF2.below hb24
  have hcell4 := World.grownBy.cell (grown_below hB4) hcell (by simp)
  have hrow4 := hrow.kept (grown_below hB4) (by cases vT.ownBlock <;> simp)
  have hsz : w.heap.size + 2 < w4.heap.size := hF4.is.lt
  have hra := all_any (some ⟨B, 0, none⟩) w2
  rw [<- hw4] at hra
  refine (callsIn_wide (n := 4)).1 ?_
  refine callsIn_of_wp_marks Tryz.func15 rfl trivial ?_ rfl
  simp only [Tryz.ntmps15, List.size_toArray, List.length_cons, List.length_nil, Nat.reduceAdd, Nat.reduceSub, Array.replicate_succ, Array.replicate_zero, List.push_toArray, List.append_toArray, List.nil_append, List.cons_append]
  clear hcell hrow hF2
  refine wpIn_wide.2 ?_
  go_wp2_with fail
  rw [show (#[.int .u8 0, .int .i64 0, .int .i64 0, .int .i64 0, .int .i64 0, .int .i64 0, .int .i64 0, .int .i64 0, .int .i64 0, .int .i64 0, .int .i64 0] : Array Value) = plaA Pla.zero from rfl, <- hw2]
  clear hw2
  refine hra.mono ?_
  rintro e w4 ⟨rfl, rfl⟩
  go_wp2_with fail
  rw [<- hw4]
  clear hra hw4
  refine (wpIn_wide (n := 4)).1 ?_
  refine wpIn_rangeFunc_ownH rfl (by omega) (gf := 58) (lb := #[.pointer (some ⟨w2.heap.size, 0, none⟩)]) rfl trivial (enters_of Tryz.func58 (by kernel_rfl) rfl)
    (all_stops hc4 hcell4 hrow4 hl (Below.refl _ _)) (fun h k => h.trans k) (fun W l o o' hl ho hc hw => belowK_b (Nat.le_refl _) W l o o' hl ho hc hw) (Below.refl _ _) (fun _ => rfl)
    (fun pre W => Below w4.heap.size w4 W /\ Hid (∀ x ∈ pre, (x.1 : Int) ≠ t))
    (fun c pre W => ∃ y : Pla, Tkr W w.heap.size t y true /\ Below w.heap.size w W /\ c = .ret /\ Hid (∃ p k, pre = p ++ [(k, y)] /\ ((k : Nat) : Int) = t))
    (OwnFrom.and (ownFrom_below (Nat.le_refl _) (Nat.le_refl _)) (fun _ _ _ _ h _ _ => h))
    (fun c s W W' row ⟨y, hy, hb, r⟩ hg hr => ⟨y, tkr_abides w.heap.size t (fun _ : Unit => y) true _ () W W' row hy hg hr, ownFrom_below (β := Unit) (Nat.le_refl _) hB4.size () W W' row hb hg hr, r⟩)
    ⟨Below.refl _ _, Lib.hid (by simp)⟩
    (fun x a' W => ∃ X, a' = { tmps := #[ptrV B, .int .i64 t, undef, .pointer (some ⟨w.heap.size, 0, none⟩), .pointer (some ⟨w.heap.size + 1, 0, none⟩), .pointer (some ⟨w.heap.size + 2, 0, none⟩), .int .i64 (x.1 : Int), .pointer (some ⟨X, 0, none⟩), ptrV B, .func (.func 58) #[] #[.pointer (some ⟨w2.heap.size, 0, none⟩)], .int .i64 (x.1 : Int), plaV x.2, undef, undef, undef, undef, undef], defers := [] } /\ PlAt W X x.2 /\ w4.heap.size <= X) ?abides ?assign ?body ?done ?stop
  case abides =>
    intro x a' u W W' row hs hg hr
    obtain ⟨X, h1, h2, h3⟩ := hs
    exact ⟨X, h1, plAt_abides X (fun _ : Unit => x.2) _ () W W' row h2 hg hr, h3⟩
  case assign =>
    rintro l pre ⟨j, x⟩ W K ⟨hB, HN⟩ hK
    simp only [encT] at hK ⊢
    gi_wp2
    exact hK _ _ ((KeepsOthers.alloc W _).from _) ((below1 W _).mono hB.size) ⟨Mch.Below.al hB hB.size _, HN⟩ ⟨_, rfl, blk_new W _ _, hB.size⟩
  case body =>
    rintro l pre ⟨j, x⟩ a' W hl2 hr ⟨hB, HN⟩ ⟨X, rfl, hX, hXl⟩ hlt
    have hF := hF4.below hB
    have hBw := below_nx hB4 hB (Nat.le_refl _)
    have tc := hF.tb.cell
    obtain ⟨c0, c1, c2, c3, c4, c5, c6, c7, c8, c9, c10⟩ := pla_cells hX
    obtain ⟨k0, k1, k2, k3, k4, k5, k6, k7, k8, k9, k10⟩ := pla_cells hF.it
    have k11 := hF.is.cell
    have f0 := hF.it.frozen
    have f1 := hF.is.frozen
    have hn0 : X ≠ w.heap.size + 1 := by omega
    have hn1 : X ≠ w.heap.size + 2 := by omega
    simp only
    by_cases hj : (j : Int) = t
    · have t0 : ((j : Int) == t) = true := beq_iff_eq.2 hj
      have HX : Hid (∃ p k, pre ++ [(j, x)] = p ++ [(k, x)] /\ ((k : Nat) : Int) = t) := Lib.hid ⟨pre, j, rfl, hj⟩
      have E1 := hF.set x true
      have E2 := setTk_below hBw (Nat.le_refl _) (Nat.le_refl _) x true
      have E3 := (setTk_others W w.heap.size x true).from w4.heap.size
      clear hj
      gi_wp2
      exact ⟨E3, x, E1, E2, rfl, HX⟩
    · have t0 : ((j : Int) == t) = false := beq_eq_false_iff_ne.2 hj
      have HN2 : Hid (∀ y ∈ pre ++ [(j, x)], ((y : Nat × Pla).1 : Int) ≠ t) := Lib.hid (fun y hy => by
        rcases List.mem_append.1 hy with hy | hy
        · exact HN.out y hy
        · obtain rfl := List.mem_singleton.1 hy; exact hj)
      clear hj
      gi_wp2
      exact ⟨KeepsFrom.refl _ _, Below.refl _ _, hB, Lib.hid (fun a b hab => HN2.out (a, b) hab)⟩
  case done =>
    rintro D ys W hD hys ⟨hB, HN⟩ hK
    have HE : Hid (Value.tuple #[plaV Pla.zero, .bool false] = F0) := Lib.hid (by
      rw [HF.out]
      by_cases h0 : 0 <= t
      · rw [if_pos h0, task_not (by rw [<- show ys = enumT T from hys]; exact HN.out) h0]; rfl
      · rw [if_neg h0]; rfl)
    clear hys HF
    have hF := hF4.below hB
    have hBw := below_nx hB4 hB (Nat.le_refl _)
    obtain ⟨k0, k1, k2, k3, k4, k5, k6, k7, k8, k9, k10⟩ := pla_cells hF.it
    have k11 := hF.is.cell
    have f0 := hF.it.frozen
    have f1 := hF.is.frozen
    have E1 := hF.set Pla.zero false
    have E2 := setTk_below hBw (Nat.le_refl _) (Nat.le_refl _) Pla.zero false
    have E3 := (setTk_others W w.heap.size Pla.zero false).same D _ hK rfl
    go_wp2_with fail
    exact task_end F0 w _ D (by omega) t Pla.zero false _ _ _ _ _ _ _ _ _ _ _ _ _ _ E1 E2 E3 HE
  case stop =>
    rintro D c pre W hD hpre ⟨y, hF, hB, rfl, HX⟩ hK
    have HE : Hid (Value.tuple #[plaV y, .bool true] = F0) := Lib.hid (by
      obtain ⟨p, k, rfl, hk⟩ := HX.out
      obtain ⟨h0, h1⟩ := task_found hpre hk
      rw [HF.out, if_pos h0, h1]; rfl)
    clear hpre HX HF
    gi_wp2
    exact task_end F0 w W D (by omega) t y true _ _ _ _ _ _ _ _ _ _ _ _ _ _ hF hB hK HE
open Go.RowKit Go.Shelf
open Ent (En)
open Mch (Wt Gt whatK putL Chn Frm Fw Fl grown_below below1 below_nx owns_slice' boxed_below)
attribute [local go_sem] Oper.semAt_some
theorem tasks_any {o : Nat -> Nat} {B : Nat} {M : Mod} (w : World) (h : Md w o B M) (hl : M.T.length <= 1000) :
    Calls Tryz.prog 10 #[ptrV B] w fun e w' => e = .returned (.int .i64 (M.T.length : Int)) /\ Below w.heap.size w w' := by
  obtain ⟨lo, hi, v1, v2, v3, vT, vC, Cs, h⟩ := h
  have hcell := h.tk
  have hrow := h.tasks
  obtain ⟨T, hT⟩ : ∃ T, T = M.T := ⟨_, rfl⟩
  rw [<- hT] at hrow hl ⊢
  clear hT h
  obtain ⟨w2, hw2⟩ : ∃ w2, w2 = w.alloc (.cells #[.int .i64 0] 3) := ⟨_, rfl⟩
  have hn2 : Boxed w2 w.heap.size 3 (.int .i64 0) := by rw [hw2]; exact Boxed.new w _ _
  have hB2 : Below w.heap.size w w2 := by rw [hw2]; exact below1 w _
  obtain ⟨w4, hw4⟩ : ∃ w4, w4 = w2.alloc (.cells #[ptrV B] 35) := ⟨_, rfl⟩
  have hb24 : Below w2.heap.size w2 w4 := by rw [hw4]; exact below1 w2 _
  have hc4 : Boxed w4 w2.heap.size 35 (ptrV B) := by rw [hw4]; exact Boxed.new w2 _ _
  have hB4 := below_nx hB2 hb24 (Nat.le_refl _)
  have hn4 := boxed_below hn2 hb24
  have hsz : w.heap.size < w4.heap.size := hn4.lt
  have hra := all_any (some ⟨B, 0, none⟩) w2
  rw [<- hw4] at hra
  refine (callsIn_wide (n := 4)).1 ?_
  refine callsIn_of_wp_marks Tryz.func10 rfl trivial ?_ rfl
  simp only [Tryz.ntmps10, List.size_toArray, List.length_cons, List.length_nil, Nat.reduceAdd, Nat.reduceSub, Array.replicate_succ, Array.replicate_zero, List.push_toArray, List.append_toArray, List.nil_append, List.cons_append]
  clear hn2
  refine wpIn_wide.2 ?_
  go_wp2_with fail
  rw [<- hw2]
  clear hw2
  refine hra.mono ?_
  rintro e w4 ⟨rfl, rfl⟩
  go_wp2_with fail
  rw [<- hw4]
  clear hra hw4
  refine (wpIn_wide (n := 4)).1 ?_
  refine wpIn_rangeFunc_ownH rfl (by omega) (gf := 58) (lb := #[.pointer (some ⟨w2.heap.size, 0, none⟩)]) rfl trivial (enters_of Tryz.func58 (by kernel_rfl) rfl)
    (all_stops hc4 hcell hrow hl hB4) (fun h k => h.trans k) (fun W l o o' hl ho hc hw => belowK_b (by omega) W l o o' hl ho hc hw) (Below.refl _ _) (fun _ => rfl)
    (fun pre W => Boxed W w.heap.size 3 (.int .i64 (pre.length : Int)) /\ Below w.heap.size w W /\ pre.length <= 1000)
    (fun _ _ _ => False)
    (OwnFrom.and (Mch.boxed_abides w.heap.size 3 (fun pre : List (Nat × Pla) => .int .i64 (pre.length : Int)) _) (OwnFrom.and (ownFrom_below (Nat.le_refl _) hB4.size) (fun _ _ _ _ h _ _ => h)))
    (fun _ _ _ _ _ hs _ _ => hs)
    ⟨hn4, hB4, by simp⟩
    (fun x a' W => a' = { tmps := #[ptrV B, undef, .pointer (some ⟨w.heap.size, 0, none⟩), ptrV B, .func (.func 58) #[] #[.pointer (some ⟨w2.heap.size, 0, none⟩)], .int .i64 (x.1 : Int), plaV x.2, undef, undef, undef], defers := [] }) ?abides ?assign ?body ?done ?stop
  case abides =>
    intro x a' u W W' row hs hg hr
    exact hs
  case assign =>
    rintro l pre ⟨j, x⟩ W K ⟨hn, hB, hl2⟩ hK
    simp only [encT] at hK ⊢
    gi_wp2
    exact hK _ _ (KeepsFrom.refl _ _) (Below.refl _ _) ⟨hn, hB, hl2⟩ (by simp)
  case body =>
    rintro l pre ⟨j, x⟩ a' W hl2 hr ⟨hn, hB, hpl⟩ rfl hlt
    have nc := hn.cell
    have nf := hn.frozen
    have hw : wrap64 ((pre.length : Int) + 1) = (pre.length : Int) + 1 := by have := IntKind.wrap_i64 ((pre.length : Int) + 1); unfold wrap64; omega
    have E1 := hn.set (.int .i64 ((pre.length : Int) + 1))
    have E2 := hB.setCell (p := ⟨w.heap.size, 0, none⟩) (Nat.le_refl _) (.int .i64 ((pre.length : Int) + 1))
    have E3 := (KeepsOthers.setCell W ⟨w.heap.size, 0, none⟩ (.int .i64 ((pre.length : Int) + 1))).from w4.heap.size
    have E4 := (Below.refl w.heap.size W).setCell (p := ⟨w.heap.size, 0, none⟩) (Nat.le_refl _) (.int .i64 ((pre.length : Int) + 1))
    have hlen : (pre ++ [(j, x)]).length <= 1000 := by simp; omega
    gi_wp2
    exact ⟨E3, E4, by simpa using E1, E2, by simpa using hlen⟩
  case done =>
    rintro D ys W hD hys ⟨hn, hB, hl2⟩ hK
    have HL : Hid ((ys.length : Int) = (T.length : Int)) := Lib.hid (by rw [show ys = enumT T from hys, enumT_len])
    clear hys
    have nc := hn.cell
    have nf := hn.frozen
    have E1 := hn.set (.int .i64 (ys.length : Int))
    have E2 := hB.setCell (p := ⟨w.heap.size, 0, none⟩) (Nat.le_refl _) (.int .i64 (ys.length : Int))
    have E3 := (KeepsOthers.setCell W ⟨w.heap.size, 0, none⟩ (.int .i64 (ys.length : Int))).same D _ hK rfl
    go_wp2_with fail
    generalize W.setCell ⟨w.heap.size, 0, none⟩ (.int .i64 (ys.length : Int)) = W1 at E1 E2 E3 ⊢
    refine ⟨by simp, .inl ⟨_, _, rfl, run_takeDeferred E3, ?_⟩⟩
    have hc5 := cell_kept E1.cell (grownBy_putObj' _ D (.deferred none)) (fun r e => by cases e; exact ⟨_, E3, rfl⟩)
    refine ⟨.int .i64 (ys.length : Int), ?_, by rw [HL.out], E2.trans (belowK_b (w := w) (Nat.le_refl _) _ D _ _ (by omega) E3 rfl rfl)⟩
    simp [results, Tryz.f10, go_sem, hc5]
  case stop =>
    rintro D c pre W _ _ h _
    exact h.elim
theorem chan_any {o : Nat -> Nat} {B : Nat} {M : Mod} (i : Nat) (w : World) (h : Md w o B M) (hiC : i < M.C.length) (hS : (M.ch i).S.length <= 900) (hR : (M.ch i).R.length <= 900) :
    Calls Tryz.prog 17 #[ptrV B, .int .i64 (i : Int)] w fun e w' => ∃ D, e = .returned (ptrV D) /\ Chn w' (fun k => w.heap.size <= k) D (M.ch i).m (M.ch i).cl (M.ch i).buf (M.ch i).S (M.ch i).R /\ Below w.heap.size w w' := by
  obtain ⟨lo, hi, v1, v2, v3, vT, vC, Cs, h⟩ := h
  obtain ⟨C, g, cap, hC, rfl, hc, hch⟩ := h.chan hiC
  have hcell := h.cn
  have hlen : i < Cs.length := (List.getElem?_eq_some_iff.1 hC).1
  have q0 : (0 : Int) <= (i : Int) := by omega
  have q1 : ¬ (i : Int) < 0 := by omega
  have q2 : (i : Int) < (Cs.length : Int) := by omega
  have q3 : ¬ (Cs.length : Int) <= (i : Int) := by omega
  have q4 : decide ((i : Int) < 0) = false := by simp
  have q5 : decide ((Cs.length : Int) <= (i : Int)) = false := by simp; omega
  have hcp := Mch.ccopy_any w hch (by omega) (by omega)
  clear h hch hC
  go_enter Tryz.func17, Tryz.ntmps17
  go_wp2_with fail
  refine hcp.mono ?_
  rintro e w' ⟨D, rfl, hD, hb⟩
  go_wp2_with fail
  go_ret
  exact ⟨D, rfl, hD, hb⟩
end Go.Proofs.YtdijhgaaeifbfaaGreat.Mdl
