/-
  ModelMoves: its walks, part 38: DDeedMap DIndex DApply.
-/
import Derived.BigQuiet
import Derived.Test.YtdijhgaaeifbfaaGreatQ00
import Derived.Test.YtdijhgaaeifbfaaGreatQ13
import Derived.Test.YtdijhgaaeifbfaaGreatQ23
import Derived.Test.YtdijhgaaeifbfaaGreatQ28
import Derived.Test.YtdijhgaaeifbfaaGreatQ29
import Derived.Test.YtdijhgaaeifbfaaGreatQ34
import Derived.Test.YtdijhgaaeifbfaaGreatQ36
import Derived.Test.YtdijhgaaeifbfaaGreatQ37
set_option maxRecDepth 100000
set_option maxHeartbeats 12800000
namespace Go.Proofs.YtdijhgaaeifbfaaGreat.Mdl
open Go.RowKit
open Ent (En)
open Mch (below1 below_nx)
def deedK : Nat -> FuncId
  | 1 => 69
  | 2 => 70
  | 3 => 71
  | 4 => 72
  | 5 => 73
  | 6 => 74
  | 7 => 75
  | 8 => 76
  | 9 => 77
  | 10 => 78
  | _ => 79
def deeF (B : Nat) (k : Nat) : Value := .func (.func (deedK k)) #[ptrV B] #[]
theorem deed_enters (k : Nat) : ∀ (args : Array Value) (W : World), (callFunc (deedK k) args).run Tryz.prog W = .ok (.enter (deedK k) args) W := by
  unfold deedK
  split
  · exact enters_of Tryz.func69 (by kernel_rfl) rfl
  · exact enters_of Tryz.func70 (by kernel_rfl) rfl
  · exact enters_of Tryz.func71 (by kernel_rfl) rfl
  · exact enters_of Tryz.func72 (by kernel_rfl) rfl
  · exact enters_of Tryz.func73 (by kernel_rfl) rfl
  · exact enters_of Tryz.func74 (by kernel_rfl) rfl
  · exact enters_of Tryz.func75 (by kernel_rfl) rfl
  · exact enters_of Tryz.func76 (by kernel_rfl) rfl
  · exact enters_of Tryz.func77 (by kernel_rfl) rfl
  · exact enters_of Tryz.func78 (by kernel_rfl) rfl
  · exact enters_of Tryz.func79 (by kernel_rfl) rfl
theorem deeds_any (B : Nat) (w : World) :
    Calls Tryz.prog 41 #[ptrV B] w fun e w' => ∃ M g, e = .returned (.map (some M)) /\ DeeMap w' M g 11 /\ (∀ k, 1 <= k -> k <= 11 -> g k = some (deeF B k)) /\ Below w.heap.size w w' := by
  have hmf : ∀ (fn : Fn) (first cap : Array Value) (w : World), (Instr.makeFunc fn first cap).run Tryz.prog w = .ok (.func fn first cap) w := fun _ _ _ _ => rfl
  have hmm := @run_makeMap Tryz.prog
  obtain ⟨w2, hw2⟩ : ∃ w2, w2 = w.alloc (.map #[] 0) := ⟨_, rfl⟩
  have hS : Below w.heap.size w w2 := by rw [hw2]; exact below1 w _
  have hM : DeeMap w2 w.heap.size (fun _ => none) 0 := by rw [hw2]; exact Deemap_made w
  have hkeep : ∀ W W', Below w.heap.size w W -> W.grownBy W' (some w.heap.size) -> Below w.heap.size w W' := fun W W' h hg => rul_below h (Nat.le_refl _) (Nat.le_refl _) hg
  rw [hw2] at hM hS
  clear hw2
  go_enter Tryz.func41, Tryz.ntmps41
  go_wp2_with (first
    | (refine wpList_insDee _ rfl _ _ _ rfl w.heap.size _ _ 1 (deeF B 1) rfl hM (by decide) rfl (by decide) rfl (by rfl) ?_; intro wx hMx hgx; have hSx := hkeep _ _ hS hgx; clear hM hS hgx; have hM := hMx; have hS := hSx; clear hMx hSx; go_frame)
    | (refine wpList_insDee _ rfl _ _ _ rfl w.heap.size _ _ 2 (deeF B 2) rfl hM (by decide) rfl (by decide) rfl (by rfl) ?_; intro wx hMx hgx; have hSx := hkeep _ _ hS hgx; clear hM hS hgx; have hM := hMx; have hS := hSx; clear hMx hSx; go_frame)
    | (refine wpList_insDee _ rfl _ _ _ rfl w.heap.size _ _ 3 (deeF B 3) rfl hM (by decide) rfl (by decide) rfl (by rfl) ?_; intro wx hMx hgx; have hSx := hkeep _ _ hS hgx; clear hM hS hgx; have hM := hMx; have hS := hSx; clear hMx hSx; go_frame)
    | (refine wpList_insDee _ rfl _ _ _ rfl w.heap.size _ _ 4 (deeF B 4) rfl hM (by decide) rfl (by decide) rfl (by rfl) ?_; intro wx hMx hgx; have hSx := hkeep _ _ hS hgx; clear hM hS hgx; have hM := hMx; have hS := hSx; clear hMx hSx; go_frame)
    | (refine wpList_insDee _ rfl _ _ _ rfl w.heap.size _ _ 5 (deeF B 5) rfl hM (by decide) rfl (by decide) rfl (by rfl) ?_; intro wx hMx hgx; have hSx := hkeep _ _ hS hgx; clear hM hS hgx; have hM := hMx; have hS := hSx; clear hMx hSx; go_frame)
    | (refine wpList_insDee _ rfl _ _ _ rfl w.heap.size _ _ 6 (deeF B 6) rfl hM (by decide) rfl (by decide) rfl (by rfl) ?_; intro wx hMx hgx; have hSx := hkeep _ _ hS hgx; clear hM hS hgx; have hM := hMx; have hS := hSx; clear hMx hSx; go_frame)
    | (refine wpList_insDee _ rfl _ _ _ rfl w.heap.size _ _ 7 (deeF B 7) rfl hM (by decide) rfl (by decide) rfl (by rfl) ?_; intro wx hMx hgx; have hSx := hkeep _ _ hS hgx; clear hM hS hgx; have hM := hMx; have hS := hSx; clear hMx hSx; go_frame)
    | (refine wpList_insDee _ rfl _ _ _ rfl w.heap.size _ _ 8 (deeF B 8) rfl hM (by decide) rfl (by decide) rfl (by rfl) ?_; intro wx hMx hgx; have hSx := hkeep _ _ hS hgx; clear hM hS hgx; have hM := hMx; have hS := hSx; clear hMx hSx; go_frame)
    | (refine wpList_insDee _ rfl _ _ _ rfl w.heap.size _ _ 9 (deeF B 9) rfl hM (by decide) rfl (by decide) rfl (by rfl) ?_; intro wx hMx hgx; have hSx := hkeep _ _ hS hgx; clear hM hS hgx; have hM := hMx; have hS := hSx; clear hMx hSx; go_frame)
    | (refine wpList_insDee _ rfl _ _ _ rfl w.heap.size _ _ 10 (deeF B 10) rfl hM (by decide) rfl (by decide) rfl (by rfl) ?_; intro wx hMx hgx; have hSx := hkeep _ _ hS hgx; clear hM hS hgx; have hM := hMx; have hS := hSx; clear hMx hSx; go_frame)
    | (refine wpList_insDee _ rfl _ _ _ rfl w.heap.size _ _ 11 (deeF B 11) rfl hM (by decide) rfl (by decide) rfl (by rfl) ?_; intro wx hMx hgx; have hSx := hkeep _ _ hS hgx; clear hM hS hgx; have hM := hMx; have hS := hSx; clear hMx hSx; go_frame))
  go_ret
  refine ⟨_, _, rfl, hM, fun k h1 h11 => ?_, hS⟩
  have : k = 1 \/ k = 2 \/ k = 3 \/ k = 4 \/ k = 5 \/ k = 6 \/ k = 7 \/ k = 8 \/ k = 9 \/ k = 10 \/ k = 11 := by omega
  rcases this with rfl | rfl | rfl | rfl | rfl | rfl | rfl | rfl | rfl | rfl | rfl <;> simp [upd]
section
variable {o : Nat -> Nat} {B : Nat} {M : Mod} {t : Int} {x : En}
theorem deed_any (w : World) (h : Md w o B M) (hI : Inv M) (hx : MvOk M t x) (ht : 0 <= t /\ t < (M.T.length : Int)) : Calls Tryz.prog (deedK x.k) #[ptrV B, enV x] w (Deed o B (M.do_ x) w) := by
  have hk : x.k = 1 \/ x.k = 2 \/ x.k = 3 \/ x.k = 4 \/ x.k = 5 \/ x.k = 6 \/ x.k = 7 \/ x.k = 8 \/ x.k = 9 \/ x.k = 10 \/ x.k = 11 := by have := hx.k; omega
  rcases hk with hk | hk | hk | hk | hk | hk | hk | hk | hk | hk | hk
  · rw [show deedK x.k = 69 by rw [hk]; rfl]
    exact send_any w h hI hx ht hk
  · rw [show deedK x.k = 70 by rw [hk]; rfl]
    exact receive_any w h hI hx ht hk
  · rw [show deedK x.k = 71 by rw [hk]; rfl]
    cases ho : x.o with
    | true => exact meet_true_any w h hI hx ht hk ho
    | false => exact meet_false_any w h hI hx ht hk ho
  · rw [show deedK x.k = 72 by rw [hk]; rfl]
    exact refill_any w h hI hx ht hk
  · rw [show deedK x.k = 73 by rw [hk]; rfl]
    exact shut_any w h hI hx ht hk
  · rw [show deedK x.k = 74 by rw [hk]; rfl]
    exact wake_any w h hI hx ht hk
  · rw [show deedK x.k = 75 by rw [hk]; rfl]
    exact pass_any w h hI hx ht hk
  · rw [show deedK x.k = 76 by rw [hk]; rfl]
    exact block_any w h hI hx ht hk
  · rw [show deedK x.k = 77 by rw [hk]; rfl]
    exact spawnD_any w h hI hx ht hk
  · rw [show deedK x.k = 78 by rw [hk]; rfl]
    exact end_any w h hI hx ht hk
  · rw [show deedK x.k = 79 by rw [hk]; rfl]
    exact halt_any w h hI hx ht hk
end
open Go.RowKit
open Ent (En EnRow)
open Mch (below1 below_nx)
theorem index_any (x : En) (v : Value) (l : List En) (w : World) (h : EnRow w v l) (hl : l.length <= 1000000) :
    Calls Tryz.prog 68 #[v, enV x] w fun e w' => ∃ k : Int, e = .returned (.int .i64 k) /\ (0 <= k ↔ x ∈ l) /\ Below w.heap.size w w' := by
  obtain ⟨wa, hwa⟩ : ∃ wa, wa = w.alloc (.cells (enA x) 32) := ⟨_, rfl⟩
  have hBa : Below w.heap.size w wa := by rw [hwa]; exact below1 w _
  have hX : Blk wa w.heap.size 32 (enA x) := by rw [hwa]; exact blk_new w _ _
  have hR := h.below hBa
  obtain ⟨a, c, rfl⟩ := h.slice
  obtain ⟨n, hn⟩ : ∃ n, n = l.length := ⟨_, rfl⟩
  rw [<- hn] at hl hR ⊢
  have HN := Lib.hid hn
  clear h hn
  go_enter Tryz.func68, Tryz.ntmps68
  go_upto_region 1 with fail
  rw [<- hwa]
  clear hwa
  go_wp2_with fail
  go_loopw [4, 8] (fun _ iv wr => ∃ j : Nat, j <= n /\ iv = .int .i64 (j : Int) /\ Below wa.heap.size wa wr /\ Hid (∀ m y, m < j -> l[m]? = some y -> y ≠ x)) (fun _ iv _ => n - (intOf iv).toNat)
  case atStart => exact ⟨0, by omega, rfl, Below.refl _ _, Lib.hid (fun m y hm => by omega)⟩
  case round =>
    obtain ⟨j, hj, rfl, hB, HX⟩ := hrel
    by_cases hlt : j < n
    · have hlt' : (j : Int) < (n : Int) := by omega
      have q0 : (0 : Int) <= (j : Int) := by omega
      have hwr : IntKind.i64.wrap ((j : Int) + 1) = (j : Int) + 1 := by rw [IntKind.wrap_i64]; omega
      obtain ⟨y, hy⟩ : ∃ y, l[j]? = some y := ⟨_, List.getElem?_eq_getElem (by rw [<- HN.out]; exact hlt)⟩
      obtain ⟨b, off, rfl, -, y0, y1, y2, y3, y4, y5, y6, y7, y8, y9, y10, y11, y12⟩ := (hR.below hB).at hy
      have hXr := hX.later hB hX.lt

      have x0 : wr.cell? ⟨w.heap.size, 0, none⟩ = some (.int .i64 x.a) := hXr.cell rfl
      have x1 : wr.cell? ⟨w.heap.size, 1, none⟩ = some (.int .u8 (x.k : Int)) := hXr.cell rfl
      have x2 : wr.cell? ⟨w.heap.size, 2, none⟩ = some (.int .i64 x.w) := hXr.cell rfl
      have x3 : wr.cell? ⟨w.heap.size, 3, none⟩ = some (.int .i64 x.t) := hXr.cell rfl
      have x4 : wr.cell? ⟨w.heap.size, 4, none⟩ = some (.int .i64 x.p) := hXr.cell rfl
      have x5 : wr.cell? ⟨w.heap.size, 5, none⟩ = some (.int .i64 x.c) := hXr.cell rfl
      have x6 : wr.cell? ⟨w.heap.size, 6, none⟩ = some (.int .i64 x.b) := hXr.cell rfl
      have x7 : wr.cell? ⟨w.heap.size, 7, none⟩ = some (.int .i64 x.q) := hXr.cell rfl
      have x8 : wr.cell? ⟨w.heap.size, 8, none⟩ = some (.int .i64 x.v) := hXr.cell rfl
      have x9 : wr.cell? ⟨w.heap.size, 9, none⟩ = some (.int .i64 x.u) := hXr.cell rfl
      have x10 : wr.cell? ⟨w.heap.size, 10, none⟩ = some (.bool x.o) := hXr.cell rfl
      have x11 : wr.cell? ⟨w.heap.size, 11, none⟩ = some (.int .i64 x.e) := hXr.cell rfl
      have x12 : wr.cell? ⟨w.heap.size, 12, none⟩ = some (.int .u64 (x.s : Int)) := hXr.cell rfl
      have heq := Ent.eq_run x y
      have HY := Lib.hid hy
      clear hy hXr
      cases he : Ent.En.eq x y with
      | true =>
        have HE : Hid (x = y) := Lib.hid (Ent.En.eq_iff.1 he)
        rw [he] at heq
        clear he
        go_wp2_with fail
        go_quiet (fail)
        go_wp2_with fail
        go_ret
        refine ⟨_, rfl, ⟨fun _ => ?_, fun _ => by omega⟩, hBa.trans ((Mch.below_drewN hB _).mono hBa.size)⟩
        rw [HE.out]
        exact List.mem_of_getElem? HY.out
      | false =>
        have HE : Hid (y ≠ x) := Lib.hid (fun e => by rw [e, Ent.En.eq_refl] at he; cases he)
        rw [he] at heq
        clear he
        go_wp2_with fail
        go_quiet (fail)
        go_wp2_with fail
        go_roundw
        case rel =>
          refine ⟨j + 1, by omega, by go_num, Mch.below_drewN hB _, Lib.hid (fun m z hm hz => ?_)⟩
          by_cases e : m = j
          · subst e
            rw [HY.out] at hz
            cases hz
            exact HE.out
          · exact HX.out m z (by omega) hz
        case measure => simp [intOf]; omega
    · obtain rfl : j = n := by omega
      have HF : Hid (x ∉ l) := Lib.hid (fun hm => by
        obtain ⟨m, hml, rfl⟩ := List.mem_iff_getElem.1 hm
        exact HX.out m _ (by rw [HN.out]; exact hml) (List.getElem?_eq_getElem hml) rfl)
      clear HX
      go_wp2_with fail
      go_ret
      exact ⟨-1, rfl, ⟨fun e => by omega, fun e => absurd e HF.out⟩, hBa.trans (hB.mono hBa.size)⟩
theorem contains_any (x : En) (v : Value) (l : List En) (w : World) (h : EnRow w v l) (hl : l.length <= 1000000) :
    Calls Tryz.prog 40 #[v, enV x] w fun e w' => e = .returned (.bool (decide (x ∈ l))) /\ Below w.heap.size w w' := by
  obtain ⟨wa, hwa⟩ : ∃ wa, wa = w.alloc (.cells (enA x) 32) := ⟨_, rfl⟩
  have hBa : Below w.heap.size w wa := by rw [hwa]; exact below1 w _
  have hX : Blk wa w.heap.size 32 (enA x) := by rw [hwa]; exact blk_new w _ _
  have hi := index_any x v l wa (h.below hBa) hl
  obtain ⟨a, c, rfl⟩ := h.slice
  obtain ⟨b, hb⟩ : ∃ b, b = decide (x ∈ l) := ⟨_, rfl⟩
  rw [<- hb]
  have HB := Lib.hid hb
  have x0 : wa.cell? ⟨w.heap.size, 0, none⟩ = some (.int .i64 x.a) := hX.cell rfl
  have x1 : wa.cell? ⟨w.heap.size, 1, none⟩ = some (.int .u8 (x.k : Int)) := hX.cell rfl
  have x2 : wa.cell? ⟨w.heap.size, 2, none⟩ = some (.int .i64 x.w) := hX.cell rfl
  have x3 : wa.cell? ⟨w.heap.size, 3, none⟩ = some (.int .i64 x.t) := hX.cell rfl
  have x4 : wa.cell? ⟨w.heap.size, 4, none⟩ = some (.int .i64 x.p) := hX.cell rfl
  have x5 : wa.cell? ⟨w.heap.size, 5, none⟩ = some (.int .i64 x.c) := hX.cell rfl
  have x6 : wa.cell? ⟨w.heap.size, 6, none⟩ = some (.int .i64 x.b) := hX.cell rfl
  have x7 : wa.cell? ⟨w.heap.size, 7, none⟩ = some (.int .i64 x.q) := hX.cell rfl
  have x8 : wa.cell? ⟨w.heap.size, 8, none⟩ = some (.int .i64 x.v) := hX.cell rfl
  have x9 : wa.cell? ⟨w.heap.size, 9, none⟩ = some (.int .i64 x.u) := hX.cell rfl
  have x10 : wa.cell? ⟨w.heap.size, 10, none⟩ = some (.bool x.o) := hX.cell rfl
  have x11 : wa.cell? ⟨w.heap.size, 11, none⟩ = some (.int .i64 x.e) := hX.cell rfl
  have x12 : wa.cell? ⟨w.heap.size, 12, none⟩ = some (.int .u64 (x.s : Int)) := hX.cell rfl
  clear h hl hb hX
  go_enter Tryz.func40, Tryz.ntmps40
  go_upto_region 1 with fail
  rw [<- hwa]
  clear hwa
  go_wp2_with fail
  refine hi.mono ?_
  rintro e w2 ⟨k, rfl, hk, hb2⟩
  have HK : Hid (decide (0 <= k) = b) := Lib.hid (by rw [HB.out]; exact decide_eq_decide.2 hk)
  clear hk
  go_wp2_with fail
  go_ret
  rw [<- HK.out]
  exact ⟨rfl, below_nx hBa hb2 (Nat.le_refl _)⟩
open Go.RowKit
open Ent (En EnRow okB)
open Mch (Frm below1 below_nx boxed_below)
def AppPost (o : Nat -> Nat) (B : Nat) (N : Mod) (k : Int) (w : World) (e : Ending) (w' : World) : Prop := e = .returned (.int .i64 k) /\ ∃ o', Md w' o' B N /\ Goes o o' w w'
def applyDefer (E : Nat) : List Deferred := [{ target := Target.fn (.func 37) #[.pointer (some ⟨E, 0, none⟩)], args := #[] }]
theorem md_off {W W' : World} {o : Nat -> Nat} {B E : Nat} {M : Mod} (h : Md W o B M) (hF : Frm (fun j => j = E) W W') (hE : o E = 0) : Md W' o B M := by
  obtain ⟨lo, hi, v1, v2, v3, vT, vC, Cs, h⟩ := h
  have hn : ∀ k, o k ≠ 0 -> ¬ k = E := fun k hk e => hk (by rw [e]; exact hE)
  exact ⟨lo, hi, v1, v2, v3, vT, vC, Cs, {
    head := (hF.block B h.head.lt (hn B (by rw [h.hown]; omega))).trans h.head
    hown := h.hown
    prog := keep_prog h.prog hF (fun k h1 h2 => hn k (by rw [h.pown k h1 h2]; omega))
    pown := h.pown
    tasks := keep_row h.tasks hF (fun g e => hn g (by rw [h.town g e]; omega))
    town := h.town
    chans := keep_row h.chans hF (fun g e => hn g (by rw [h.cown g e]; omega))
    cown := h.cown
    len := h.len
    chs := fun j C c hC hc => keep_chn (h.chs j C c hC hc) hF (fun k hk => hn k (by rw [hk]; omega))
    low := fun k hk => Nat.lt_of_lt_of_le (h.low k hk) hF.size }⟩
theorem apply_dies {o : Nat -> Nat} {B : Nat} {N : Mod} {w : World} (E : Nat) (w1 : World) (T : Array Value) (k x0 : Int) (h4 : T[4]?.getD undef = .pointer (some ⟨E, 0, none⟩))
    (hE : Boxed w1 E 28 (.int .i64 x0)) (hN : Md w1 o B N) (hG : Goes o o w w1) (hE0 : o E = 0) (hw : w.heap.size <= E) :
    bodyPostD Tryz.prog Tryz.f14 (AppPost o B N k w) (.panic [{ v := .iface 71 (.agg #[.int .i64 k]), recovered := false }]) { tmps := T, defers := applyDefer E } w1 := by
  refine leaves_cons (f := 37) (args := #[.pointer (some ⟨E, 0, none⟩)]) (by simp) (by simp [go_sem]) ?_
  refine (apply_caught E k [] w1 x0 hE).mono ?_
  rintro e' u' w'' ⟨rfl, rfl, hE', hbt⟩
  have q := hE'.cell
  have hF : Frm (fun j => j = E) w1 w'' := ⟨hbt.os, hbt.tape, hbt.output, hbt.size, fun j hj hn => hbt.block j hj (by simpa using hn)⟩
  have hN2 := md_off hN hF hE0
  have hG2 : Goes o o w w'' := ⟨fun _ _ => rfl, Mch.Frm.trans_new hG.frm hF (fun i hi => .inr (by rw [hi]; exact hw))⟩
  have hfin : AppPost o B N k w (.returned (.int .i64 k)) w'' := ⟨rfl, o, hN2, hG2⟩
  simp [Leaves, settle, results, Tryz.f14, go_sem, h4, q]
  exact hfin
theorem apply_ends {o o' : Nat -> Nat} {B : Nat} {N : Mod} {w : World} (E : Nat) (w1 : World) (T : Array Value) (k : Int) (h4 : T[4]?.getD undef = .pointer (some ⟨E, 0, none⟩))
    (hE : Boxed w1 E 28 (.int .i64 k)) (hN : Md w1 o' B N) (hG : Goes o o' w w1) :
    bodyPostD Tryz.prog Tryz.f14 (AppPost o B N k w) .ret { tmps := T, defers := applyDefer E } w1 := by
  refine leaves_cons (f := 37) (args := #[.pointer (some ⟨E, 0, none⟩)]) (by simp) (by simp [go_sem]) ?_
  refine (apply_idle E w1).mono ?_
  rintro e' u' w'' ⟨rfl, rfl, hbt⟩
  have q := (boxed_below hE hbt).cell
  have hfin : AppPost o B N k w (.returned (.int .i64 k)) w'' := ⟨rfl, o', hN.below hbt, hG.trans (Goes.of_below hbt)⟩
  simp [Leaves, settle, results, Tryz.f14, go_sem, h4, q]
  exact hfin
def PanD (D : Act -> Prop) (R : List PanicEntry -> World -> Prop) (Q : Exit -> Act -> World -> Prop) : Exit -> Act -> World -> Prop
  | .panic c, a, w => D a /\ R c w
  | e, a, w => Q e a w
theorem wp_region_panD {P : Program} {id : Nat} {ops : Array Oper} {b : Bool} {Q : Exit -> Act -> World -> Prop} {a : Act} {w : World} (D : Act -> Prop) (R : List PanicEntry -> World -> Prop) (hR : ∀ c a w, D a -> R c w -> Q (.panic c) a w)
    (h : (Code.region id ops b).wp P (PanD D R Q) a w) : (Code.region id ops b).wp P Q a w :=
  Code.wp_mono (fun e a w h => by cases e <;> first | exact h | exact hR _ _ _ h.1 h.2) h
def AppAct (E : Nat) (a : Act) : Prop := a.defers = applyDefer E /\ a.tmps[4]?.getD undef = .pointer (some ⟨E, 0, none⟩)
theorem appAct_put {E i : Nat} {v : Value} (hi : i ≠ 4) {R : List PanicEntry -> World -> Prop} {Q : Exit -> Act -> World -> Prop} : ∀ c a w, PanD (AppAct E) R Q (.panic c) (a.put (some i) v) w -> PanD (AppAct E) R Q (.panic c) a w := by
  rintro c ⟨tm, df⟩ w ⟨⟨h1, h2⟩, h3⟩
  refine ⟨⟨h1, ?_⟩, h3⟩
  simpa [Act.put, Array.getElem?_setIfInBounds_ne hi] using h2
section
variable {o : Nat -> Nat} {B : Nat} {M : Mod} {x : En}
theorem apply_halted (w : World) (h : Md w o B M) (he : M.e ≠ 0) :
    Calls Tryz.prog 14 #[ptrV B, enV x] w (AppPost o B M 170 w) := by
  obtain ⟨w2, hw2⟩ : ∃ w2, w2 = (w.alloc (.cells (enA x) 32)).alloc (.cells #[.int .i64 0] 28) := ⟨_, rfl⟩
  have hB2 : Below w.heap.size w w2 := by rw [hw2]; exact below2 w _ _
  have hX2 : Blk w2 w.heap.size 32 (enA x) := by rw [hw2]; exact (blk_new w _ _).alloc _
  have hE2 : Boxed w2 (w.heap.size + 1) 28 (.int .i64 0) := by
    have h1 := Boxed.new (w.alloc (.cells (enA x) 32)) 28 (.int .i64 0)
    rw [World.size_alloc] at h1
    rw [hw2]; exact h1
  have hM2 := h.below hB2
  have hG2 : Goes o o w w2 := Goes.of_below hB2
  have hE0 : o (w.heap.size + 1) = 0 := h.off (by omega)
  have hhl := halted_any w2 hM2
  have hmf : ∀ (fn : Fn) (first cap : Array Value) (w : World), (Instr.makeFunc fn first cap).run Tryz.prog w = .ok (.func fn first cap) w := fun _ _ _ _ => rfl
  have hne : (M.e != 0) = true := by simpa using he
  rw [hne] at hhl
  clear hne he h hB2 hX2
  go_enter_defers Tryz.func14, Tryz.ntmps14
  go_wp2_with fail
  rw [<- hw2]
  clear hw2
  refine (mneed_ok 1 w2).mono ?_
  rintro e w2 ⟨rfl, rfl⟩
  go_wp2_with fail
  refine hhl.mono ?_
  rintro e w2 ⟨rfl, rfl⟩
  go_wp2_with fail
  refine (mneed_bad 170 w2).mono ?_
  rintro e w2 ⟨rfl, rfl⟩
  go_wp2_with fail
  exact apply_dies (w.heap.size + 1) _ _ 170 0 rfl hE2 hM2 hG2 hE0 (by omega)
theorem commitE_any (k : Nat) (w : World) (hk : k < 256) :
    Calls Tryz.prog 39 #[.int .u8 (k : Int)] w fun e w' => e = .returned (.bool (decide (1 <= k) && decide (k <= 11))) /\ w' = w := by
  by_cases h1 : 1 <= k
  · have h1' : (1 : Int) <= (k : Int) := by omega
    have d1 : decide ((1 : Int) <= (k : Int)) = true := by simp; omega
    by_cases h2 : k <= 11
    · have d2 : decide ((k : Int) <= 11) = true := by simp; omega
      have HE : Hid ((decide (1 <= k) && decide (k <= 11)) = true) := Lib.hid (by simp [h1, h2])
      clear h1 h2 h1'
      go_enter Tryz.func39, Tryz.ntmps39
      go_wp2_with fail
      go_ret
      rw [HE.out]
      exact ⟨by first | rfl | (simp; omega), rfl⟩
    · have d2 : decide ((k : Int) <= 11) = false := by simp; omega
      have HE : Hid ((decide (1 <= k) && decide (k <= 11)) = false) := Lib.hid (by simp [h1, h2])
      clear h1 h2 h1'
      go_enter Tryz.func39, Tryz.ntmps39
      go_wp2_with fail
      go_ret
      rw [HE.out]
      exact ⟨by first | rfl | (simp; omega), rfl⟩
  · have d1 : decide ((1 : Int) <= (k : Int)) = false := by simp; omega
    have h1' : ¬ (1 : Int) <= (k : Int) := by omega
    have HE : Hid ((decide (1 <= k) && decide (k <= 11)) = false) := Lib.hid (by simp [h1])
    clear h1
    go_enter Tryz.func39, Tryz.ntmps39
    go_wp2_with fail
    go_ret
    rw [HE.out]
    exact ⟨by first | rfl | (simp; omega), rfl⟩
theorem apply_bad (w : World) (h : Md w o B M) (he : M.e = 0) (hx : x.ok) (hb : okB x = false) :
    Calls Tryz.prog 14 #[ptrV B, enV x] w (AppPost o B M 2 w) := by
  obtain ⟨w2, hw2⟩ : ∃ w2, w2 = (w.alloc (.cells (enA x) 32)).alloc (.cells #[.int .i64 0] 28) := ⟨_, rfl⟩
  have hB2 : Below w.heap.size w w2 := by rw [hw2]; exact below2 w _ _
  have hX2 : Blk w2 w.heap.size 32 (enA x) := by rw [hw2]; exact (blk_new w _ _).alloc _
  have hE2 : Boxed w2 (w.heap.size + 1) 28 (.int .i64 0) := by
    have h1 := Boxed.new (w.alloc (.cells (enA x) 32)) 28 (.int .i64 0)
    rw [World.size_alloc] at h1
    rw [hw2]; exact h1
  have hM2 := h.below hB2
  have hG2 : Goes o o w w2 := Goes.of_below hB2
  have hE0 : o (w.heap.size + 1) = 0 := h.off (by omega)
  have hhl := halted_any w2 hM2
  have hmf : ∀ (fn : Fn) (first cap : Array Value) (w : World), (Instr.makeFunc fn first cap).run Tryz.prog w = .ok (.func fn first cap) w := fun _ _ _ _ => rfl
  have hne : (M.e != 0) = false := by simpa using he
  rw [hne] at hhl
  have hck := Ent.check_any x hx w2
  rw [show Ent.checkE x = 2 by unfold Ent.checkE; rw [hb]; rfl] at hck
  have hck' : Calls Tryz.prog 38 #[enV x] w2 fun e w' => e = .returned (.int .i64 2) /\ Below w2.heap.size w2 w' := hck
  have x0 : w2.cell? ⟨w.heap.size, 0, none⟩ = some (.int .i64 x.a) := Blk.cell hX2 rfl
  have x1 : w2.cell? ⟨w.heap.size, 1, none⟩ = some (.int .u8 (x.k : Int)) := Blk.cell hX2 rfl
  have x2 : w2.cell? ⟨w.heap.size, 2, none⟩ = some (.int .i64 x.w) := Blk.cell hX2 rfl
  have x3 : w2.cell? ⟨w.heap.size, 3, none⟩ = some (.int .i64 x.t) := Blk.cell hX2 rfl
  have x4 : w2.cell? ⟨w.heap.size, 4, none⟩ = some (.int .i64 x.p) := Blk.cell hX2 rfl
  have x5 : w2.cell? ⟨w.heap.size, 5, none⟩ = some (.int .i64 x.c) := Blk.cell hX2 rfl
  have x6 : w2.cell? ⟨w.heap.size, 6, none⟩ = some (.int .i64 x.b) := Blk.cell hX2 rfl
  have x7 : w2.cell? ⟨w.heap.size, 7, none⟩ = some (.int .i64 x.q) := Blk.cell hX2 rfl
  have x8 : w2.cell? ⟨w.heap.size, 8, none⟩ = some (.int .i64 x.v) := Blk.cell hX2 rfl
  have x9 : w2.cell? ⟨w.heap.size, 9, none⟩ = some (.int .i64 x.u) := Blk.cell hX2 rfl
  have x10 : w2.cell? ⟨w.heap.size, 10, none⟩ = some (.bool x.o) := Blk.cell hX2 rfl
  have x11 : w2.cell? ⟨w.heap.size, 11, none⟩ = some (.int .i64 x.e) := Blk.cell hX2 rfl
  have x12 : w2.cell? ⟨w.heap.size, 12, none⟩ = some (.int .u64 (x.s : Int)) := Blk.cell hX2 rfl
  clear hne he h hB2 hX2 hx hb hck
  go_enter_defers Tryz.func14, Tryz.ntmps14
  go_wp2_with fail
  rw [<- hw2]
  clear hw2
  refine (mneed_ok 1 w2).mono ?_
  rintro e w2 ⟨rfl, rfl⟩
  go_wp2_with fail
  refine hhl.mono ?_
  rintro e w2 ⟨rfl, rfl⟩
  go_wp2_with fail
  refine (mneed_ok 170 w2).mono ?_
  rintro e w2 ⟨rfl, rfl⟩
  go_wp2_with fail
  refine hck'.mono ?_
  rintro e w3 ⟨rfl, hb3⟩
  go_wp2_with fail
  refine (mneed_bad 2 w3).mono ?_
  rintro e w3 ⟨rfl, rfl⟩
  go_wp2_with fail
  exact apply_dies (w.heap.size + 1) _ _ 2 0 rfl (boxed_below hE2 hb3) (hM2.below hb3) (hG2.trans (Goes.of_below hb3)) hE0 (by omega)
theorem apply_mark (w : World) (h : Md w o B M) (he : M.e = 0) (hx : x.ok) (hb : okB x = true) (hk : (decide (1 <= x.k) && decide (x.k <= 11)) = false) :
    Calls Tryz.prog 14 #[ptrV B, enV x] w (AppPost o B M 2 w) := by
  obtain ⟨w2, hw2⟩ : ∃ w2, w2 = (w.alloc (.cells (enA x) 32)).alloc (.cells #[.int .i64 0] 28) := ⟨_, rfl⟩
  have hB2 : Below w.heap.size w w2 := by rw [hw2]; exact below2 w _ _
  have hX2 : Blk w2 w.heap.size 32 (enA x) := by rw [hw2]; exact (blk_new w _ _).alloc _
  have hE2 : Boxed w2 (w.heap.size + 1) 28 (.int .i64 0) := by
    have h1 := Boxed.new (w.alloc (.cells (enA x) 32)) 28 (.int .i64 0)
    rw [World.size_alloc] at h1
    rw [hw2]; exact h1
  have hM2 := h.below hB2
  have hG2 : Goes o o w w2 := Goes.of_below hB2
  have hE0 : o (w.heap.size + 1) = 0 := h.off (by omega)
  have hhl := halted_any w2 hM2
  have hmf : ∀ (fn : Fn) (first cap : Array Value) (w : World), (Instr.makeFunc fn first cap).run Tryz.prog w = .ok (.func fn first cap) w := fun _ _ _ _ => rfl
  have hne : (M.e != 0) = false := by simpa using he
  rw [hne] at hhl
  have hck := Ent.check_any x hx w2
  rw [show Ent.checkE x = 0 by unfold Ent.checkE; rw [hb]; rfl] at hck
  have hck' : Calls Tryz.prog 38 #[enV x] w2 fun e w' => e = .returned (.int .i64 0) /\ Below w2.heap.size w2 w' := hck
  have hcm := fun W => commitE_any x.k W hx.k
  rw [hk] at hcm
  have hkc : ∀ W, Below w2.heap.size w2 W -> W.cell? ⟨w.heap.size, 1, none⟩ = some (.int .u8 (x.k : Int)) := fun W hW => Blk.cell (hX2.later hW hX2.lt) rfl
  have x0 : w2.cell? ⟨w.heap.size, 0, none⟩ = some (.int .i64 x.a) := Blk.cell hX2 rfl
  have x1 : w2.cell? ⟨w.heap.size, 1, none⟩ = some (.int .u8 (x.k : Int)) := Blk.cell hX2 rfl
  have x2 : w2.cell? ⟨w.heap.size, 2, none⟩ = some (.int .i64 x.w) := Blk.cell hX2 rfl
  have x3 : w2.cell? ⟨w.heap.size, 3, none⟩ = some (.int .i64 x.t) := Blk.cell hX2 rfl
  have x4 : w2.cell? ⟨w.heap.size, 4, none⟩ = some (.int .i64 x.p) := Blk.cell hX2 rfl
  have x5 : w2.cell? ⟨w.heap.size, 5, none⟩ = some (.int .i64 x.c) := Blk.cell hX2 rfl
  have x6 : w2.cell? ⟨w.heap.size, 6, none⟩ = some (.int .i64 x.b) := Blk.cell hX2 rfl
  have x7 : w2.cell? ⟨w.heap.size, 7, none⟩ = some (.int .i64 x.q) := Blk.cell hX2 rfl
  have x8 : w2.cell? ⟨w.heap.size, 8, none⟩ = some (.int .i64 x.v) := Blk.cell hX2 rfl
  have x9 : w2.cell? ⟨w.heap.size, 9, none⟩ = some (.int .i64 x.u) := Blk.cell hX2 rfl
  have x10 : w2.cell? ⟨w.heap.size, 10, none⟩ = some (.bool x.o) := Blk.cell hX2 rfl
  have x11 : w2.cell? ⟨w.heap.size, 11, none⟩ = some (.int .i64 x.e) := Blk.cell hX2 rfl
  have x12 : w2.cell? ⟨w.heap.size, 12, none⟩ = some (.int .u64 (x.s : Int)) := Blk.cell hX2 rfl
  clear hne he h hB2 hX2 hx hb hck hk
  go_enter_defers Tryz.func14, Tryz.ntmps14
  go_wp2_with fail
  rw [<- hw2]
  clear hw2
  refine (mneed_ok 1 w2).mono ?_
  rintro e w2 ⟨rfl, rfl⟩
  go_wp2_with fail
  refine hhl.mono ?_
  rintro e w2 ⟨rfl, rfl⟩
  go_wp2_with fail
  refine (mneed_ok 170 w2).mono ?_
  rintro e w2 ⟨rfl, rfl⟩
  go_wp2_with fail
  refine hck'.mono ?_
  rintro e w3 ⟨rfl, hb3⟩
  have y1 := hkc w3 hb3
  go_wp2_with fail
  refine (hcm w3).mono ?_
  rintro e w3 ⟨rfl, rfl⟩
  go_wp2_with fail
  refine (mneed_bad 2 w3).mono ?_
  rintro e w3 ⟨rfl, rfl⟩
  go_wp2_with fail
  exact apply_dies (w.heap.size + 1) _ _ 2 0 rfl (boxed_below hE2 hb3) (hM2.below hb3) (hG2.trans (Goes.of_below hb3)) hE0 (by omega)
end
end Go.Proofs.YtdijhgaaeifbfaaGreat.Mdl
