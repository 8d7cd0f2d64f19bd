/-
  ModelMoves: its walks, part 41: DRun DNew.
-/
import Derived.Test.YtdijhgaaeifbfaaGreatQ00
import Derived.Test.YtdijhgaaeifbfaaGreatQ10
import Derived.Test.YtdijhgaaeifbfaaGreatQ23
import Derived.Test.YtdijhgaaeifbfaaGreatQ38
import Derived.Test.YtdijhgaaeifbfaaGreatQ40
set_option maxRecDepth 100000
set_option maxHeartbeats 12800000
namespace Go.Proofs.YtdijhgaaeifbfaaGreat.Mdl
open Go.RowKit
open Ent (En EnRow okB en_one en_len)
open Mch (below1 below_nx owns_slice')
structure Runs (w : World) (o : Nat -> Nat) (A : Nat) (M : Mod) (W : World) : Prop where
  md : Md W o A M
  inv : Inv M
  bel : Below w.heap.size w W
  new : ∀ k, o k ≠ 0 -> w.heap.size <= k
section
variable {w W W' : World} {o o' : Nat -> Nat} {A : Nat} {M N : Mod}
theorem Runs.below (h : Runs w o A M W) (hb : Below W.heap.size W W') : Runs w o A M W' := ⟨h.md.below hb, h.inv, below_nx h.bel hb (Nat.le_refl _), h.new⟩
theorem Runs.goes (h : Runs w o A M W) (hm : Md W' o' A N) (hi : Inv N) (hG : Goes o o' W W') : Runs w o' A N W' :=
  ⟨hm, hi, frm_low h.bel hG.frm h.new, fun k hk => by
    by_cases hl : k < W.heap.size
    · exact h.new k (by rw [<- hG.old k hl]; exact hk)
    · have := h.bel.size; omega⟩
theorem Runs.apply {x : En} (h : Runs w o A M W) (hx : x.ok) :
    Calls Tryz.prog 14 #[ptrV A, enV x] W fun e w' => e = .returned (.int .i64 (M.applyE x)) /\ ∃ o', Goes o o' W w' /\ Runs w o' A (M.apply x) w' :=
  (apply_any x W h.md h.inv hx).mono fun _ _ ⟨e1, o', hm, hG⟩ => ⟨e1, o', hG, h.goes hm (inv_apply h.inv) hG⟩
end
def stpL (s : Stp) : List Value := [.int .u16 (s.n : Int), .bool s.raw, .bool s.cp, .int .i64 s.x.a, .int .u8 (s.x.k : Int), .int .i64 s.x.w, .int .i64 s.x.t, .int .i64 s.x.p, .int .i64 s.x.c, .int .i64 s.x.b, .int .i64 s.x.q, .int .i64 s.x.v, .int .i64 s.x.u, .bool s.x.o, .int .i64 s.x.e, .int .u64 (s.x.s : Int)]
def StRow (W : World) (v : Value) (l : List Stp) : Prop :=
  ∃ a c, v = .slice a l.length c /\ (l.length = 0 \/ ∃ b off, a = some ⟨b, off, none⟩ /\ b < W.heap.size /\ ∀ k s, l[k]? = some s -> s.ok /\ ∀ i u, (stpL s)[i]? = some u -> W.cell? ⟨b, off + k * 16 + i, none⟩ = some u)
theorem StRow.slice {W : World} {v : Value} {l : List Stp} (h : StRow W v l) : ∃ a c, v = .slice a l.length c := by obtain ⟨a, c, h, _⟩ := h; exact ⟨a, c, h⟩
theorem StRow.below {w W : World} {v : Value} {l : List Stp} (h : StRow w v l) (hb : Below w.heap.size w W) : StRow W v l := by
  obtain ⟨a, c, h1, h2⟩ := h
  refine ⟨a, c, h1, ?_⟩
  rcases h2 with h2 | ⟨b, off, h3, h4, h5⟩
  · exact .inl h2
  · exact .inr ⟨b, off, h3, Nat.lt_of_lt_of_le h4 hb.size, fun k s hk => ⟨(h5 k s hk).1, fun i u hi => (hb.cell (p := ⟨b, off + k * 16 + i, none⟩) h4).trans ((h5 k s hk).2 i u hi)⟩⟩
theorem StRow.at {W : World} {a : Option Addr} {n c : Nat} {l : List Stp} (h : StRow W (.slice a n c) l) {k : Nat} {s : Stp} (hk : l[k]? = some s) :
    ∃ b off, a = some ⟨b, off, none⟩ /\ b < W.heap.size /\ s.ok /\ W.cell? ⟨b, off + k * 16, none⟩ = some (.int .u16 (s.n : Int)) /\ W.cell? ⟨b, off + k * 16 + 1, none⟩ = some (.bool s.raw) /\ W.cell? ⟨b, off + k * 16 + 2, none⟩ = some (.bool s.cp) /\ W.cell? ⟨b, off + k * 16 + 3, none⟩ = some (.int .i64 s.x.a) /\ W.cell? ⟨b, off + k * 16 + 4, none⟩ = some (.int .u8 (s.x.k : Int)) /\ W.cell? ⟨b, off + k * 16 + 5, none⟩ = some (.int .i64 s.x.w) /\ W.cell? ⟨b, off + k * 16 + 6, none⟩ = some (.int .i64 s.x.t) /\ W.cell? ⟨b, off + k * 16 + 7, none⟩ = some (.int .i64 s.x.p) /\ W.cell? ⟨b, off + k * 16 + 8, none⟩ = some (.int .i64 s.x.c) /\ W.cell? ⟨b, off + k * 16 + 9, none⟩ = some (.int .i64 s.x.b) /\ W.cell? ⟨b, off + k * 16 + 10, none⟩ = some (.int .i64 s.x.q) /\ W.cell? ⟨b, off + k * 16 + 11, none⟩ = some (.int .i64 s.x.v) /\ W.cell? ⟨b, off + k * 16 + 12, none⟩ = some (.int .i64 s.x.u) /\ W.cell? ⟨b, off + k * 16 + 13, none⟩ = some (.bool s.x.o) /\ W.cell? ⟨b, off + k * 16 + 14, none⟩ = some (.int .i64 s.x.e) /\ W.cell? ⟨b, off + k * 16 + 15, none⟩ = some (.int .u64 (s.x.s : Int)) := by
  obtain ⟨a', c', h1, h2⟩ := h
  have hlt := (List.getElem?_eq_some_iff.1 hk).1
  simp only [Value.slice.injEq] at h1
  rcases h2 with h2 | ⟨b, off, h3, h4, h5⟩
  · omega
  · have h6 := (h5 k s hk).2
    exact ⟨b, off, h1.1.trans h3, h4, (h5 k s hk).1, by simpa using h6 0 _ rfl, h6 1 _ rfl, h6 2 _ rfl, h6 3 _ rfl, h6 4 _ rfl, h6 5 _ rfl, h6 6 _ rfl, h6 7 _ rfl, h6 8 _ rfl, h6 9 _ rfl, h6 10 _ rfl, h6 11 _ rfl, h6 12 _ rfl, h6 13 _ rfl, h6 14 _ rfl, h6 15 _ rfl⟩
def stepM (M : Mod) (s : Stp) : Mod := if (nextM M s).2 then M.apply (nextM M s).1 else M
def runM (M : Mod) (l : List Stp) : Mod := l.foldl stepM M
theorem runM_snoc (M : Mod) (l : List Stp) {k : Nat} {s : Stp} (hk : l[k]? = some s) : runM M (l.take (k + 1)) = stepM (runM M (l.take k)) s := by
  unfold runM
  rw [List.take_add_one, hk, Option.toList_some, List.foldl_append]; rfl
theorem run_any {w W : World} {o : Nat -> Nat} {A : Nat} {M : Mod} {v : Value} {l : List Stp} (h : Runs w o A M W) (hv : StRow w v l) (hl : l.length <= 1000000) :
    Calls Tryz.prog 8 #[ptrV A, v] W fun e w' => e = .returned (.tuple #[]) /\ ∃ o', Runs w o' A (runM M l) w' := by
  obtain ⟨a, c, rfl⟩ := hv.slice
  obtain ⟨n, hn⟩ : ∃ n, n = l.length := ⟨_, rfl⟩
  rw [<- hn] at hv hl ⊢
  have HN := Lib.hid hn
  clear hn
  go_enter Tryz.func8, Tryz.ntmps8
  go_wp2_with fail
  go_loopw [4] (fun iv wr => ∃ (k : Nat) (o' : Nat -> Nat), k <= n /\ iv = .int .i64 (k : Int) /\ Runs w o' A (runM M (l.take k)) wr) (fun iv _ => n - (intOf iv).toNat)
  case atStart => exact ⟨0, o, Nat.zero_le _, rfl, h⟩
  case round =>
    clear h
    obtain ⟨k, o', hk, rfl, hR⟩ := hrel
    by_cases hlt : k < n
    · have hlt' : (k : Int) < (n : Int) := by omega
      have q0 : (0 : Int) <= (k : Int) := by omega
      have hwk : IntKind.i64.wrap ((k : Int) + 1) = (k : Int) + 1 := by rw [IntKind.wrap_i64]; omega
      obtain ⟨s, hs⟩ : ∃ s, l[k]? = some s := ⟨_, List.getElem?_eq_getElem (by rw [<- HN.out]; exact hlt)⟩
      have HS := Lib.hid (runM_snoc M l hs)
      obtain ⟨b, off, rfl, _, hok, x0, x1, x2, x3, x4, x5, x6, x7, x8, x9, x10, x11, x12, x13, x14, x15⟩ := (hv.below hR.bel).at hs
      have hnx := next_any s wr hR.md hR.inv hok
      have hxo := nextM_ok hR.inv hok
      obtain ⟨N, hN⟩ : ∃ N, N = runM M (l.take k) := ⟨_, rfl⟩
      rw [<- hN] at HS hR hnx hxo
      obtain ⟨⟨x, is⟩, hx⟩ : ∃ y, y = nextM N s := ⟨_, rfl⟩
      rw [<- hx] at hnx hxo
      have HX := Lib.hid hx
      clear hN hx hs hlt
      simp only at hnx hxo
      go_wp2_with fail
      refine hnx.mono ?_
      clear hnx x0 x1 x2 x3 x4 x5 x6 x7 x8 x9 x10 x11 x12 x13 x14 x15
      rintro e w1 ⟨rfl, hb1⟩
      have hB2 := Mch.Below.al hb1 hb1.size (.cells (enA x) 32)
      have hR2 := hR.below hB2
      clear hb1 hR hB2
      cases is with
      | true =>
        have HA : Hid (runM M (l.take (k + 1)) = N.apply x) := Lib.hid (by rw [HS.out]; unfold stepM; rw [<- HX.out]; rfl)
        have hap := hR2.apply hxo
        clear hxo
        go_wp2_with fail
        refine hap.mono ?_
        clear hap
        rintro e w2 ⟨rfl, o2, -, hR3⟩
        go_wp2_with fail
        go_roundw
        case rel => exact ⟨k + 1, o2, by omega, by go_num, by rw [HA.out]; exact hR3⟩
        case measure => simp [intOf]; omega
      | false =>
        have HA : Hid (runM M (l.take (k + 1)) = N) := Lib.hid (by rw [HS.out]; unfold stepM; rw [<- HX.out]; rfl)
        clear hxo
        go_wp2_with fail
        go_roundw
        case rel => exact ⟨k + 1, o', by omega, by go_num, by rw [HA.out]; exact hR2⟩
        case measure => simp [intOf]; omega
    · obtain rfl : k = n := by omega
      have hk0 : ¬ (k : Int) < (k : Int) := by omega
      have HT : Hid (runM M (l.take k) = runM M l) := Lib.hid (by rw [List.take_of_length_le (by rw [<- HN.out]; omega)])
      rw [HT.out] at hR
      clear hlt
      go_wp2_with fail
      exact ⟨rfl, _, results_none rfl _ _ _, rfl, o', hR⟩
open Go.RowKit
open Mch (Chn Frm Fw Fl below1 below_nx owns_slice' boxed_below)
def chsOf (p : Prg) : List Cha := p.caps.map fun m => ⟨m.toNat, false, [], [], []⟩
def newM (p : Prg) (most : Nat) : Mod := ⟨p, most, [⟨1, begF 0⟩], chsOf p, fun _ => 0, 0, 0⟩
theorem inv_new {p : Prg} {most : Nat} (hc : checkW p = none) (hs : Small p) (hf : Fit p) (h1 : 1 <= most) (h32 : most <= 32) : Inv (newM p most) where
  chk := hc
  small := hs
  fit := hf
  mo := h32
  tl := h1
  cl := by simp [newM, chsOf]
  fr := fun x hx => by
    rw [List.mem_singleton.1 hx]
    exact rok_at0 rok_zero 0
  ch := fun c hx => by
    obtain ⟨m, hm, rfl⟩ := List.mem_map.1 hx
    exact ⟨Nat.zero_le _, fun e => absurd rfl e, fun e => absurd rfl e, by simp, by simp, by simp, List.Pairwise.nil, List.Pairwise.nil⟩
  k := fun i c hx hcl => by
    unfold newM chsOf at hx
    simp only [List.getElem?_map] at hx
    cases hm : p.caps[i]? with
    | none => rw [hm] at hx; cases hx
    | some m => rw [hm] at hx; simp only [Option.map_some, Option.some.injEq] at hx; subst hx; cases hcl
theorem owns_blk {W : World} {r size : Nat} {ty : TypeId} {cs : Array Value} (h : Blk W r ty cs) (hs : cs.size = size) : W.ownsRow 0 ty size (.slice (some ⟨r, 0, none⟩) 1 1) 1 cs.toList := by
  refine ⟨by simp [hs], .inr ⟨r, 1, cs, rfl, Nat.zero_le _, h, Nat.le_refl _, by unfold maxLen; omega, by omega, ?_⟩⟩
  rw [List.take_of_length_le (by simp; omega)]
theorem new_md {W : World} {o1 : Nat -> Nat} {cv U1 U2 U3 : Value} {Ds : List Nat} {p : Prg} {most lo hi r A b c0 : Nat} {F : Fra} (hF : F = begF 0)
    (hh : Blk W A 84 #[U1, U2, U3, .int .i64 (most : Int), .slice (some ⟨r, 0, none⟩) 1 1, cv, .int .i64 0, .int .i64 0, .int .i64 0, .int .i64 0, .int .i64 0, .int .i64 0, .int .i64 0, .int .i64 0]) (hp : PrgAt lo hi W U1 U2 U3 p) (hr : Blk W r 52 #[.int .u8 1, .int .i64 F.c, .int .i64 F.p, .int .i64 F.r0, .int .i64 F.r1, .int .i64 F.r2, .int .i64 F.r3, .int .i64 F.r4, .int .i64 F.r5, .int .i64 F.r6, .int .i64 F.r7]) (hc : ChRow W o1 cv Ds (chsOf p))
    (hob : ∀ k, o1 k ≠ 0 -> b <= k /\ k < c0) (hlo : c0 <= lo) (hrc : c0 <= r) (hAc : c0 <= A) (hrA : r ≠ A) (hrp : ¬ (lo <= r /\ r < hi)) (hAp : ¬ (lo <= A /\ A < hi)) (hbc : b <= c0) :
    Md W (asmO o1 A lo hi (.slice (some ⟨r, 0, none⟩) 1 1)) A (newM p most) /\ (∀ k, asmO o1 A lo hi (.slice (some ⟨r, 0, none⟩) 1 1) k ≠ 0 -> b <= k) /\ (∀ k, k < b -> asmO o1 A lo hi (.slice (some ⟨r, 0, none⟩) 1 1) k = 0) := by
  have hz : ∀ k, c0 <= k -> o1 k = 0 := fun k hk => by by_cases h0 : o1 k = 0; exact h0; have := hob k h0; omega
  have hown : ∀ g, (Value.slice (some ⟨r, 0, none⟩) 1 1).ownBlock = some g -> g = r := fun g e => by simpa [Value.ownBlock] using e.symm
  have hrow : W.ownsRow 0 52 11 (.slice (some ⟨r, 0, none⟩) 1 1) (newM p most).T.length (flatP (newM p most).T) := by
    have := owns_blk hr rfl
    rw [hF] at this
    simpa [newM, flatP, Pla.cellsL] using this
  have hn := asm_new (o1 := o1) (vT := .slice (some ⟨r, 0, none⟩) 1 1) (A := A) (lo := lo) (hi := hi) (b := b) (by omega) (by omega) (fun g e => by have := hown g e; omega) (fun k hk => (hob k hk).1)
  refine ⟨md_made (M := newM p most) hh hp hrow hc (hz A hAc) (fun k h1 h2 => ⟨hz k (by omega), by rintro rfl; exact hAp ⟨h1, h2⟩⟩) (fun g e => ?_), hn, fun k hk => by
    by_cases h0 : asmO o1 A lo hi (.slice (some ⟨r, 0, none⟩) 1 1) k = 0; exact h0; have := hn k h0; omega⟩
  obtain rfl := hown g e
  exact ⟨hz g hrc, hrA, hrp⟩
theorem new_fin {w W : World} {o' : Nat -> Nat} {A E b : Nat} {M : Mod} (hE : Boxed W E 28 (.int .i64 0)) (hN : Md W o' A M) (hn : ∀ k, o' k ≠ 0 -> b <= k) (hz : ∀ k, k < b -> o' k = 0) (hB : Below w.heap.size w W) (hEw : w.heap.size <= E) (hEb : E < b) (hwb : w.heap.size <= b) :
    Boxed (W.setCell ⟨E, 0, none⟩ (.int .i64 0)) E 28 (.int .i64 0) /\ NewMd w M A (W.setCell ⟨E, 0, none⟩ (.int .i64 0)) /\ Below w.heap.size w (W.setCell ⟨E, 0, none⟩ (.int .i64 0)) := by
  have hF : Frm (fun j => j = E) W (W.setCell ⟨E, 0, none⟩ (.int .i64 0)) := Mch.Frm.set (F := fun j => j = E) (p := ⟨E, 0, none⟩) W _ rfl
  exact ⟨hE.set _, ⟨o', md_off hN hF (hz E hEb), fun k hk => Nat.le_trans hwb (hn k hk)⟩, frm_low hB hF (fun k e => by omega)⟩
def NewPost (w : World) (p : Prg) (most : Nat) (e : Ending) (w' : World) : Prop := ∃ A, e = .returned (.tuple #[ptrV A, .int .i64 0]) /\ NewMd w (newM p most) A w' /\ Below w.heap.size w w'
def newDefer (E : Nat) : List Deferred := [{ target := Target.fn (.func 23) #[.pointer (some ⟨E, 0, none⟩)], args := #[] }]
theorem new_dies {w : World} (E : Nat) (w1 : World) (T : Array Value) (k x0 : Int) (h4 : T[4]?.getD undef = .pointer none) (h5 : T[5]?.getD undef = .pointer (some ⟨E, 0, none⟩))
    (hE : Boxed w1 E 28 (.int .i64 x0)) (hB : Below w.heap.size w w1) (hw : w.heap.size <= E) :
    bodyPostD Tryz.prog Tryz.f7 (fun e w' => e = .returned (.tuple #[.pointer none, .int .i64 k]) /\ Below w.heap.size w w') (.panic [{ v := .iface 71 (.agg #[.int .i64 k]), recovered := false }]) { tmps := T, defers := newDefer E } w1 := by
  refine leaves_cons (f := 23) (args := #[.pointer (some ⟨E, 0, none⟩)]) (by simp) (by simp [go_sem]) ?_
  refine (new_caught E k [] w1 x0 hE).mono ?_
  rintro e' u' w'' ⟨rfl, rfl, hE', hbt⟩
  have q := hE'.cell
  have hbb : Below w.heap.size w w'' := hB.trans (hbt.below hB.size (by simpa using hw))
  simp [Leaves, settle, results, Tryz.f7, go_sem, h4, h5, q, hbb]
theorem new_ends {w : World} {p : Prg} {most : Nat} (E A : Nat) (w1 : World) (T : Array Value) (h4 : T[4]?.getD undef = ptrV A) (h5 : T[5]?.getD undef = .pointer (some ⟨E, 0, none⟩))
    (hE : Boxed w1 E 28 (.int .i64 0)) (hN : NewMd w (newM p most) A w1) (hB : Below w.heap.size w w1) :
    bodyPostD Tryz.prog Tryz.f7 (NewPost w p most) .ret { tmps := T, defers := newDefer E } w1 := by
  refine leaves_cons (f := 23) (args := #[.pointer (some ⟨E, 0, none⟩)]) (by simp) (by simp [go_sem]) ?_
  refine (new_idle E w1).mono ?_
  rintro e' u' w'' ⟨rfl, rfl, hbt⟩
  have q := (boxed_below hE hbt).cell
  obtain ⟨o', hm, hn⟩ := hN
  have hfin : NewPost w p most (.returned (.tuple #[ptrV A, .int .i64 0])) w'' := ⟨A, rfl, ⟨o', hm.below hbt, hn⟩, hB.trans (hbt.mono hB.size)⟩
  simp [Leaves, settle, results, Tryz.f7, go_sem, h4, h5, q]
  exact hfin
section
variable {lo hi : Nat} {v1 v2 v3 : Value} {p : Prg}
theorem new_bad (most : Int) (w : World) (h : PrgAt lo hi w v1 v2 v3 p) (hs : Small p) (hb : checkW p ≠ none) :
    Calls Tryz.prog 7 #[.agg #[v1, v2, v3], .int .i64 most] w fun e w' => e = .returned (.tuple #[.pointer none, .int .i64 2]) /\ Below w.heap.size w w' := by
  obtain ⟨a1, c1, rfl⟩ := h.caps.slice
  obtain ⟨a2, c2, rfl⟩ := h.codes.slice
  obtain ⟨a3, c3, rfl⟩ := h.sites.slice
  obtain ⟨w2, hw2⟩ : ∃ w2, w2 = (w.alloc (.cells #[.slice a1 p.caps.length c1, .slice a2 p.codes.length c2, .slice a3 p.sites.length c3] 26)).alloc (.cells #[.int .i64 0] 28) := ⟨_, rfl⟩
  have hB2 : Below w.heap.size w w2 := by rw [hw2]; exact below2 w _ _
  have hX2 : Blk w2 w.heap.size 26 #[.slice a1 p.caps.length c1, .slice a2 p.codes.length c2, .slice a3 p.sites.length c3] := by rw [hw2]; exact (blk_new w _ _).alloc _
  have hE2 : Boxed w2 (w.heap.size + 1) 28 (.int .i64 0) := by
    have h1 := Boxed.new (w.alloc (.cells #[.slice a1 p.caps.length c1, .slice a2 p.codes.length c2, .slice a3 p.sites.length c3] 26)) 28 (.int .i64 0)
    rw [World.size_alloc] at h1
    rw [hw2]; exact h1
  have hP2 := h.later hB2
  have hmf : ∀ (fn : Fn) (first cap : Array Value) (w : World), (Instr.makeFunc fn first cap).run Tryz.prog w = .ok (.func fn first cap) w := fun _ _ _ _ => rfl
  have x0 : w2.cell? ⟨w.heap.size, 0, none⟩ = some (.slice a1 p.caps.length c1) := hX2.cell rfl
  have x1 : w2.cell? ⟨w.heap.size, 1, none⟩ = some (.slice a2 p.codes.length c2) := hX2.cell rfl
  have x2 : w2.cell? ⟨w.heap.size, 2, none⟩ = some (.slice a3 p.sites.length c3) := hX2.cell rfl
  have hck := Go.Proofs.YtdijhgaaeifbfaaGreat.progCheck_any w2 hP2 hs
  obtain ⟨z0, hz0⟩ : ∃ z, z = (checkT p).1 := ⟨_, rfl⟩
  obtain ⟨z1, hz1⟩ : ∃ z, z = (checkT p).2.1 := ⟨_, rfl⟩
  obtain ⟨z2, hz2⟩ : ∃ z, z = (checkT p).2.2 := ⟨_, rfl⟩
  rw [<- hz0, <- hz1, <- hz2] at hck
  have hne : (z2 == 0) = false := by
    have : z2 ≠ 0 := fun e => hb (check_zero.1 (by rw [<- hz2]; exact e))
    simpa using this
  clear hz0 hz1 hz2 hb hs h hP2 hX2
  go_enter_defers Tryz.func7, Tryz.ntmps7
  go_wp2_with fail
  rw [<- hw2]
  clear hw2
  refine hck.mono ?_
  rintro e w3 ⟨rfl, hb3⟩
  go_wp2_with fail
  refine (mneed_bad 2 w3).mono ?_
  rintro e w3 ⟨rfl, rfl⟩
  go_wp2_with fail
  exact new_dies (w.heap.size + 1) _ _ 2 0 rfl rfl (boxed_below hE2 hb3) (below_nx hB2 hb3 (Nat.le_refl _)) (by omega)
theorem new_ok (most : Nat) (w : World) (h : PrgAt lo hi w v1 v2 v3 p) (hs : Small p) (hc : checkW p = none) (hm1 : 1 <= most) (hm2 : most <= 32) :
    Calls Tryz.prog 7 #[.agg #[v1, v2, v3], .int .i64 (most : Int)] w (NewPost w p most) := by
  obtain ⟨i0, hi0, hz0, hz1, hz2⟩ := info_parts infoPtr
  obtain ⟨a1, c1, rfl⟩ := h.caps.slice
  obtain ⟨a2, c2, rfl⟩ := h.codes.slice
  obtain ⟨a3, c3, rfl⟩ := h.sites.slice
  obtain ⟨w2, hw2⟩ : ∃ w2, w2 = (w.alloc (.cells #[.slice a1 p.caps.length c1, .slice a2 p.codes.length c2, .slice a3 p.sites.length c3] 26)).alloc (.cells #[.int .i64 0] 28) := ⟨_, rfl⟩
  have hB2 : Below w.heap.size w w2 := by rw [hw2]; exact below2 w _ _
  have hX2 : Blk w2 w.heap.size 26 #[.slice a1 p.caps.length c1, .slice a2 p.codes.length c2, .slice a3 p.sites.length c3] := by rw [hw2]; exact (blk_new w _ _).alloc _
  have hE2 : Boxed w2 (w.heap.size + 1) 28 (.int .i64 0) := by
    have h1 := Boxed.new (w.alloc (.cells #[.slice a1 p.caps.length c1, .slice a2 p.codes.length c2, .slice a3 p.sites.length c3] 26)) 28 (.int .i64 0)
    rw [World.size_alloc] at h1
    rw [hw2]; exact h1
  have hP2 := h.later hB2
  have hmf : ∀ (fn : Fn) (first cap : Array Value) (w : World), (Instr.makeFunc fn first cap).run Tryz.prog w = .ok (.func fn first cap) w := fun _ _ _ _ => rfl
  have x0 : w2.cell? ⟨w.heap.size, 0, none⟩ = some (.slice a1 p.caps.length c1) := hX2.cell rfl
  have x1 : w2.cell? ⟨w.heap.size, 1, none⟩ = some (.slice a2 p.codes.length c2) := hX2.cell rfl
  have x2 : w2.cell? ⟨w.heap.size, 2, none⟩ = some (.slice a3 p.sites.length c3) := hX2.cell rfl
  have hck := Go.Proofs.YtdijhgaaeifbfaaGreat.progCheck_any w2 hP2 hs
  rw [check_zero.2 hc] at hck
  obtain ⟨y0, hy0⟩ : ∃ z, z = (checkT p).1 := ⟨_, rfl⟩
  obtain ⟨y1, hy1⟩ : ∃ z, z = (checkT p).2.1 := ⟨_, rfl⟩
  rw [<- hy0, <- hy1] at hck
  have q1 : (1 : Int) <= (most : Int) := by omega
  have q2 : (most : Int) <= 32 := by omega
  have d1 : decide ((1 : Int) <= (most : Int)) = true := by simp; omega
  have d2 : decide ((most : Int) <= 32) = true := by simp; omega
  clear hy0 hy1 hm1 hm2
  go_enter_defers Tryz.func7, Tryz.ntmps7
  go_wp2_with fail
  rw [<- hw2]
  clear hw2
  refine hck.mono ?_
  rintro e w3 ⟨rfl, hb3⟩
  have hP3 := hP2.later hb3
  have hX3 := Blk.later hX2 hb3 hX2.lt
  have hE3 := boxed_below hE2 hb3
  have hB3 := below_nx hB2 hb3 (Nat.le_refl _)
  clear x0 x1 x2 hck hP2 hX2 hE2 hb3 h
  have x0 : w3.cell? ⟨w.heap.size, 0, none⟩ = some (.slice a1 p.caps.length c1) := Blk.cell hX3 rfl
  go_wp2_with fail
  refine (mneed_ok 2 w3).mono ?_
  rintro e w3 ⟨rfl, rfl⟩
  go_wp2_with fail
  refine (mneed_ok 2 w3).mono ?_
  rintro e w3 ⟨rfl, rfl⟩
  obtain ⟨n, hn⟩ : ∃ n, n = p.caps.length := ⟨_, rfl⟩
  have hn6 : n <= 6 := by rw [hn]; exact caps_le hc
  have HN := Lib.hid hn
  have hP3' := hP3
  rw [<- hn] at x0 hP3'
  clear hn
  go_wp2_with fail
  clear x0
  go_loopw [9, 35] (fun cv iv wr => ∃ j : Nat, j <= n /\ iv = .int .i64 (j : Int) /\ ∃ o1 Ds, ChRow wr o1 cv Ds ((chsOf p).take j) /\ Below w3.heap.size w3 wr /\ (∀ k, o1 k ≠ 0 -> w3.heap.size <= k)) (fun _ iv _ => n - (intOf iv).toNat)
  case atStart => exact ⟨0, by omega, rfl, _, _, by simpa using ChRow.nil w3, Below.refl _ _, fun k hk => absurd rfl hk⟩
  case round =>
    obtain ⟨j, hj, rfl, o1, Ds, hR, hB, hnew⟩ := hrel
    by_cases hlt : j < n
    · have hlt' : (j : Int) < (n : Int) := by omega
      have q3 : (0 : Int) <= (j : Int) := by omega
      have q6 : (j : Int) < 6 := by omega
      have hwr : IntKind.i64.wrap ((j : Int) + 1) = (j : Int) + 1 := by rw [IntKind.wrap_i64]; omega
      obtain ⟨b, off, cx, rfl, -, -, hcx, -, hcell⟩ := (hP3'.later hB).caps.at (show j < p.caps.length by rw [<- HN.out]; exact hlt)
      have hcb := caps_all hc hcx
      obtain ⟨m, rfl⟩ : ∃ m : Nat, cx = (m : Int) := ⟨cx.toNat, by omega⟩
      have hm8 : m <= 8 := by omega
      have hcn := Mch.cnew_ok m wr hm8
      have hch : (chsOf p)[j]? = some ⟨m, false, [], [], []⟩ := by unfold chsOf; rw [List.getElem?_map, hcx]; rfl
      clear hcb hcx
      go_wp2_with fail
      refine hcn.mono ?_
      rintro e w6 ⟨D, rfl, hD6, hb6⟩
      go_wp2_with fail
      refine (mneed_ok 2 w6).mono ?_
      rintro e w6 ⟨rfl, rfl⟩
      obtain ⟨av, cv, rfl⟩ := owns_slice' hR.row
      obtain ⟨nD, hnD⟩ : ∃ nD, nD = Ds.length := ⟨_, rfl⟩
      have hnDj : nD <= 6 := by have h1 := hR.len; rw [List.length_take] at h1; omega
      have hRrow := hR.row
      have HD := Lib.hid hnD
      rw [<- hnD] at hRrow hR
      rw [<- hnD]
      clear hnD hcn hcell
      have hrow2 : (w6.alloc (.cells #[ptrV D] 63)).ownsRow 0 63 1 (.slice av nD cv) nD (Ds.map ptrV) := (owns_fresh hRrow hb6).alloc _
      have hcl2 : ∀ (k : Nat) (u : Value), ([ptrV D] : List Value)[k]? = some u -> (w6.alloc (.cells #[ptrV D] 63)).cell? (Addr.add ⟨w6.heap.size, 0, none⟩ k) = some u := fun k u hk => by
        rw [add0]; exact Blk.cell (blk_new w6 63 #[ptrV D]) (by simpa using hk)
      have hone : ∀ u ∈ ([ptrV D] : List Value), u.oneCell' = true := by simp [Value.oneCell']
      go_wp2_with (at_builtin; refine wpList_append_own_at _ rfl _ _ 76 rfl 0 63 i0 (.pointer none) 1 8 Tryz.underlying76 hi0 hz0 hz1 hz2 rfl (by decide) _ nD (Ds.map ptrV) rfl hrow2 ⟨w6.heap.size, 0, none⟩ 1 1 [ptrV D] rfl rfl ?k1 ?k2 ?k3 ?k4 ?k5 ?_)
      case k1 => exact hcl2
      case k2 => exact hone
      case k3 => unfold maxLen; omega
      case k4 => omega
      try (case k5 => exact Nat.zero_le _)
      intro v7 w7 hown7 hg7 _ hat7
      obtain ⟨g7, cap7, rfl⟩ := ownsRow_succ hown7
      obtain ⟨⟨o2, hR2, hn2⟩, hF2⟩ := row_round (v7 := .slice (some ⟨g7, 0, none⟩) (nD + 1) cap7) (c := ⟨m, false, [], [], []⟩) hR hnew hB.size hD6 hb6 hg7 (by rw [<- HD.out]; exact hown7) (by rw [World.size_alloc]; exact hat7)
      rw [show (chsOf p).take j ++ [⟨m, false, [], [], []⟩] = (chsOf p).take (j + 1) from (take_snoc' _ hch).symm] at hR2
      have hB7 : Below w3.heap.size w3 w7 := frm_low hB hF2 (fun k e => e)
      clear hR hnew hB hD6 hb6 hg7 hown7 hat7 hF2 hrow2 hcl2 hone hRrow hch
      go_wp2_with fail
      go_roundw
      case rel => exact ⟨j + 1, by omega, by go_num, o2, _, hR2, hB7, hn2⟩
      case measure => simp [intOf]; omega
    · obtain rfl : j = n := by omega
      have hTk : (chsOf p).take j = chsOf p := List.take_of_length_le (by rw [HN.out]; simp [chsOf])
      rw [hTk] at hR
      obtain ⟨av, cv, rfl⟩ := owns_slice' hR.row
      have hbg := begin_any 0 wr
      have hEs : w.heap.size + 1 < w3.heap.size := hE3.lt
      have hBr : Below w.heap.size w wr := hB3.trans (hB.mono hB3.size)
      have hEr := boxed_below hE3 hB
      have hXr := Blk.later hX3 hB hX3.lt
      have hPr := hP3.later hB
      obtain ⟨F, hF⟩ : ∃ F, F = begF 0 := ⟨_, rfl⟩
      rw [<- hF] at hbg
      have HF := Lib.hid hF
      clear hF
      clear hTk hX3 hE3 hP3 hP3'
      go_wp2_with fail
      refine hbg.mono ?_
      rintro e w4 ⟨rfl, hb4⟩
      go_upto_region 14 with fail
      obtain ⟨T0, hT0⟩ : ∃ T0, T0 = w4.heap.size := ⟨_, rfl⟩
      obtain ⟨w8, hw8⟩ : ∃ w8, w8 = w4.alloc (.cells #[.int .u8 1, .int .i64 F.c, .int .i64 F.p, .int .i64 F.r0, .int .i64 F.r1, .int .i64 F.r2, .int .i64 F.r3, .int .i64 F.r4, .int .i64 F.r5, .int .i64 F.r6, .int .i64 F.r7] 52) := ⟨_, rfl⟩
      have hb8 : Below wr.heap.size wr w8 := by rw [hw8]; exact Mch.Below.al hb4 hb4.size _
      have hT8 : Blk w8 T0 52 #[.int .u8 1, .int .i64 F.c, .int .i64 F.p, .int .i64 F.r0, .int .i64 F.r1, .int .i64 F.r2, .int .i64 F.r3, .int .i64 F.r4, .int .i64 F.r5, .int .i64 F.r6, .int .i64 F.r7] := by rw [hw8, hT0]; exact blk_new w4 _ _
      rw [<- hw8, <- hT0]
      have hT8l := hT8.lt
      clear hw8 hT0 hb4 hbg
      have hR8 := hR.below hb8
      have hE8 := boxed_below hEr hb8
      have hX8 := Blk.later hXr hb8 hXr.lt
      have hP8 := hPr.later hb8
      have hB8 := hBr.trans (hb8.mono hBr.size)
      have hcp := fun (W : World) (hW : Below w8.heap.size w8 W) => Go.Proofs.YtdijhgaaeifbfaaGreat.copy_any W (hP8.later hW) hs
      have r0 : Below w8.heap.size w8 w8.drew := (Below.refl _ _).drew
      have r1 : Below w8.heap.size w8 (w8.alloc (.cells #[.int .u8 1, .int .i64 F.c, .int .i64 F.p, .int .i64 F.r0, .int .i64 F.r1, .int .i64 F.r2, .int .i64 F.r3, .int .i64 F.r4, .int .i64 F.r5, .int .i64 F.r6, .int .i64 F.r7] 52)).drew := (below1 w8 _).drew
      have x0 : w8.drew.cell? ⟨w.heap.size, 0, none⟩ = some (.slice a1 p.caps.length c1) := Blk.cell hX8 rfl
      have x1 : w8.drew.cell? ⟨w.heap.size, 1, none⟩ = some (.slice a2 p.codes.length c2) := Blk.cell hX8 rfl
      have x2 : w8.drew.cell? ⟨w.heap.size, 2, none⟩ = some (.slice a3 p.sites.length c3) := Blk.cell hX8 rfl
      have hXa := Blk.later hX8 r1 hX8.lt
      have y0 : (w8.alloc (.cells #[.int .u8 1, .int .i64 F.c, .int .i64 F.p, .int .i64 F.r0, .int .i64 F.r1, .int .i64 F.r2, .int .i64 F.r3, .int .i64 F.r4, .int .i64 F.r5, .int .i64 F.r6, .int .i64 F.r7] 52)).drew.cell? ⟨w.heap.size, 0, none⟩ = some (.slice a1 p.caps.length c1) := Blk.cell hXa rfl
      have y1 : (w8.alloc (.cells #[.int .u8 1, .int .i64 F.c, .int .i64 F.p, .int .i64 F.r0, .int .i64 F.r1, .int .i64 F.r2, .int .i64 F.r3, .int .i64 F.r4, .int .i64 F.r5, .int .i64 F.r6, .int .i64 F.r7] 52)).drew.cell? ⟨w.heap.size, 1, none⟩ = some (.slice a2 p.codes.length c2) := Blk.cell hXa rfl
      have y2 : (w8.alloc (.cells #[.int .u8 1, .int .i64 F.c, .int .i64 F.p, .int .i64 F.r0, .int .i64 F.r1, .int .i64 F.r2, .int .i64 F.r3, .int .i64 F.r4, .int .i64 F.r5, .int .i64 F.r6, .int .i64 F.r7] 52)).drew.cell? ⟨w.heap.size, 2, none⟩ = some (.slice a3 p.sites.length c3) := Blk.cell hXa rfl
      have t0 : w8.drew.cell? ⟨T0, 0, none⟩ = some (.int .u8 1) := Blk.cell (show Blk w8.drew T0 _ _ from hT8) rfl
      have t1 : w8.drew.cell? ⟨T0, 1, none⟩ = some (.int .i64 F.c) := Blk.cell (show Blk w8.drew T0 _ _ from hT8) rfl
      have t2 : w8.drew.cell? ⟨T0, 2, none⟩ = some (.int .i64 F.p) := Blk.cell (show Blk w8.drew T0 _ _ from hT8) rfl
      have t3 : w8.drew.cell? ⟨T0, 3, none⟩ = some (.int .i64 F.r0) := Blk.cell (show Blk w8.drew T0 _ _ from hT8) rfl
      have t4 : w8.drew.cell? ⟨T0, 4, none⟩ = some (.int .i64 F.r1) := Blk.cell (show Blk w8.drew T0 _ _ from hT8) rfl
      have t5 : w8.drew.cell? ⟨T0, 5, none⟩ = some (.int .i64 F.r2) := Blk.cell (show Blk w8.drew T0 _ _ from hT8) rfl
      have t6 : w8.drew.cell? ⟨T0, 6, none⟩ = some (.int .i64 F.r3) := Blk.cell (show Blk w8.drew T0 _ _ from hT8) rfl
      have t7 : w8.drew.cell? ⟨T0, 7, none⟩ = some (.int .i64 F.r4) := Blk.cell (show Blk w8.drew T0 _ _ from hT8) rfl
      have t8 : w8.drew.cell? ⟨T0, 8, none⟩ = some (.int .i64 F.r5) := Blk.cell (show Blk w8.drew T0 _ _ from hT8) rfl
      have t9 : w8.drew.cell? ⟨T0, 9, none⟩ = some (.int .i64 F.r6) := Blk.cell (show Blk w8.drew T0 _ _ from hT8) rfl
      have t10 : w8.drew.cell? ⟨T0, 10, none⟩ = some (.int .i64 F.r7) := Blk.cell (show Blk w8.drew T0 _ _ from hT8) rfl
      refine Mch.wp_onlyN ?_
      go_region_law (first
        | (go_simp; with_reducible refine (hcp _ r0).mono ?_; rintro e w9 ⟨u1, u2, u3, rfl, hO9, hb9⟩
           have hb89 : Below w8.heap.size w8 w9 := r0.trans (hb9.mono r0.size)
           have hP9 := hO9.at hP8.fit
           obtain ⟨d1', f1, rfl⟩ := hP9.caps.slice
           obtain ⟨d2', f2, rfl⟩ := hP9.codes.slice
           obtain ⟨d3', f3, rfl⟩ := hP9.sites.slice
           have hT9 := Blk.later hT8 hb89 hT8.lt
           have hE9 := boxed_below hE8 hb89
           have hEa : ∀ o1 o2, ((w9.alloc o1).alloc o2).cell? ⟨w.heap.size + 1, 0, none⟩ = some (.int .i64 0) := fun o1 o2 => (boxed_below hE9 (below2 w9 o1 o2)).cell
           have hEf : ∀ o1 o2, ((w9.alloc o1).alloc o2).frozen? ⟨w.heap.size + 1, 0, none⟩ = false := fun o1 o2 => (boxed_below hE9 (below2 w9 o1 o2)).frozen
           have s0 : w9.cell? ⟨T0, 0, none⟩ = some (.int .u8 1) := Blk.cell hT9 rfl
           have s1 : w9.cell? ⟨T0, 1, none⟩ = some (.int .i64 F.c) := Blk.cell hT9 rfl
           have s2 : w9.cell? ⟨T0, 2, none⟩ = some (.int .i64 F.p) := Blk.cell hT9 rfl
           have s3 : w9.cell? ⟨T0, 3, none⟩ = some (.int .i64 F.r0) := Blk.cell hT9 rfl
           have s4 : w9.cell? ⟨T0, 4, none⟩ = some (.int .i64 F.r1) := Blk.cell hT9 rfl
           have s5 : w9.cell? ⟨T0, 5, none⟩ = some (.int .i64 F.r2) := Blk.cell hT9 rfl
           have s6 : w9.cell? ⟨T0, 6, none⟩ = some (.int .i64 F.r3) := Blk.cell hT9 rfl
           have s7 : w9.cell? ⟨T0, 7, none⟩ = some (.int .i64 F.r4) := Blk.cell hT9 rfl
           have s8 : w9.cell? ⟨T0, 8, none⟩ = some (.int .i64 F.r5) := Blk.cell hT9 rfl
           have s9 : w9.cell? ⟨T0, 9, none⟩ = some (.int .i64 F.r6) := Blk.cell hT9 rfl
           have s10 : w9.cell? ⟨T0, 10, none⟩ = some (.int .i64 F.r7) := Blk.cell hT9 rfl)
        | (go_simp; with_reducible refine (hcp _ r1).mono ?_; rintro e w9 ⟨u1, u2, u3, rfl, hO9, hb9⟩
           have hb89 : Below w8.heap.size w8 w9 := r1.trans (hb9.mono r1.size)
           have hP9 := hO9.at hP8.fit
           obtain ⟨d1', f1, rfl⟩ := hP9.caps.slice
           obtain ⟨d2', f2, rfl⟩ := hP9.codes.slice
           obtain ⟨d3', f3, rfl⟩ := hP9.sites.slice
           have hE9 := boxed_below hE8 hb89
           have hEa : ∀ o1, (w9.alloc o1).cell? ⟨w.heap.size + 1, 0, none⟩ = some (.int .i64 0) := fun o1 => (boxed_below hE9 (below1 w9 o1)).cell
           have hEf : ∀ o1, (w9.alloc o1).frozen? ⟨w.heap.size + 1, 0, none⟩ = false := fun o1 => (boxed_below hE9 (below1 w9 o1)).frozen))
      all_goals simp only [Mch.onlyN]
      all_goals have hs89 := hb89.size
      all_goals have hs9 := hb9.size
      all_goals have hs38 : w3.heap.size <= w8.heap.size := Nat.le_trans hB.size hb8.size
      all_goals have hob : ∀ k, o1 k ≠ 0 -> w3.heap.size <= k /\ k < w8.heap.size := fun k hk => ⟨hnew k hk, hR8.low k hk⟩
      all_goals have hE3s : w.heap.size + 1 < w3.heap.size := hEs
      all_goals have hC9 := hR8.below hb89
      all_goals have hB9 := hB8.trans (hb89.mono hB8.size)
      all_goals first
        | (have hb2 := below2 w9 (.cells #[.int .u8 1, .int .i64 F.c, .int .i64 F.p, .int .i64 F.r0, .int .i64 F.r1, .int .i64 F.r2, .int .i64 F.r3, .int .i64 F.r4, .int .i64 F.r5, .int .i64 F.r6, .int .i64 F.r7] 52) (.cells #[.slice d1' p.caps.length f1, .slice d2' p.codes.length f2, .slice d3' p.sites.length f3, .int .i64 (most : Int), .slice (some ⟨w9.heap.size, 0, none⟩) 1 1, .slice av Ds.length cv, .int .i64 0, .int .i64 0, .int .i64 0, .int .i64 0, .int .i64 0, .int .i64 0, .int .i64 0, .int .i64 0] 84)
           have hz9 : w8.heap.size <= w9.heap.size := hs89
           have hmd := new_md (W := ((w9.alloc (.cells #[.int .u8 1, .int .i64 F.c, .int .i64 F.p, .int .i64 F.r0, .int .i64 F.r1, .int .i64 F.r2, .int .i64 F.r3, .int .i64 F.r4, .int .i64 F.r5, .int .i64 F.r6, .int .i64 F.r7] 52)).alloc (.cells #[.slice d1' p.caps.length f1, .slice d2' p.codes.length f2, .slice d3' p.sites.length f3, .int .i64 (most : Int), .slice (some ⟨w9.heap.size, 0, none⟩) 1 1, .slice av Ds.length cv, .int .i64 0, .int .i64 0, .int .i64 0, .int .i64 0, .int .i64 0, .int .i64 0, .int .i64 0, .int .i64 0] 84))) (F := F) (r := w9.heap.size) (A := w9.heap.size + 1) (b := w3.heap.size) (c0 := w8.heap.size) HF.out (blk_at (by simp)) (hP9.later hb2) ((blk_new w9 _ _).alloc _) (hC9.below hb2) hob (Nat.le_refl _) hz9 (by omega) (by omega) (fun e => by omega) (fun e => by omega) hs38
           obtain ⟨g1, g2, g3⟩ := new_fin (w := w) (boxed_below hE9 hb2) hmd.1 hmd.2.1 hmd.2.2 (hB9.trans (hb2.mono hB9.size)) (by omega) hE3s hB3.size
           clear hmd hb2
           generalize ((w9.alloc (.cells #[.int .u8 1, .int .i64 F.c, .int .i64 F.p, .int .i64 F.r0, .int .i64 F.r1, .int .i64 F.r2, .int .i64 F.r3, .int .i64 F.r4, .int .i64 F.r5, .int .i64 F.r6, .int .i64 F.r7] 52)).alloc (.cells #[.slice d1' p.caps.length f1, .slice d2' p.codes.length f2, .slice d3' p.sites.length f3, .int .i64 (most : Int), .slice (some ⟨w9.heap.size, 0, none⟩) 1 1, .slice av Ds.length cv, .int .i64 0, .int .i64 0, .int .i64 0, .int .i64 0, .int .i64 0, .int .i64 0, .int .i64 0, .int .i64 0] 84)).setCell ⟨w.heap.size + 1, 0, none⟩ (.int .i64 0) = wf at g1 g2 g3 ⊢
           go_wp2_with fail
           exact new_ends (w.heap.size + 1) _ _ _ rfl rfl g1 g2 g3)
        | (have hb2 := below1 w9 (.cells #[.slice d1' p.caps.length f1, .slice d2' p.codes.length f2, .slice d3' p.sites.length f3, .int .i64 (most : Int), .slice (some ⟨w8.heap.size, 0, none⟩) 1 1, .slice av Ds.length cv, .int .i64 0, .int .i64 0, .int .i64 0, .int .i64 0, .int .i64 0, .int .i64 0, .int .i64 0, .int .i64 0] 84)
           have hrs : (w8.alloc (.cells #[.int .u8 1, .int .i64 F.c, .int .i64 F.p, .int .i64 F.r0, .int .i64 F.r1, .int .i64 F.r2, .int .i64 F.r3, .int .i64 F.r4, .int .i64 F.r5, .int .i64 F.r6, .int .i64 F.r7] 52)).drew.heap.size = w8.heap.size + 1 := World.size_alloc _ _
           have hs10 : w8.heap.size + 1 <= w9.heap.size := by rw [<- hrs]; exact hs9
           have hrow9 : Blk w9 w8.heap.size 52 #[.int .u8 1, .int .i64 F.c, .int .i64 F.p, .int .i64 F.r0, .int .i64 F.r1, .int .i64 F.r2, .int .i64 F.r3, .int .i64 F.r4, .int .i64 F.r5, .int .i64 F.r6, .int .i64 F.r7] := Blk.later (show Blk (w8.alloc (.cells #[.int .u8 1, .int .i64 F.c, .int .i64 F.p, .int .i64 F.r0, .int .i64 F.r1, .int .i64 F.r2, .int .i64 F.r3, .int .i64 F.r4, .int .i64 F.r5, .int .i64 F.r6, .int .i64 F.r7] 52)).drew _ _ _ from blk_new w8 _ _) hb9 (by rw [hrs]; omega)
           have hmd := new_md (W := (w9.alloc (.cells #[.slice d1' p.caps.length f1, .slice d2' p.codes.length f2, .slice d3' p.sites.length f3, .int .i64 (most : Int), .slice (some ⟨w8.heap.size, 0, none⟩) 1 1, .slice av Ds.length cv, .int .i64 0, .int .i64 0, .int .i64 0, .int .i64 0, .int .i64 0, .int .i64 0, .int .i64 0, .int .i64 0] 84))) (F := F) (r := w8.heap.size) (A := w9.heap.size) (b := w3.heap.size) (c0 := w8.heap.size) HF.out (blk_new w9 _ _) (hP9.later hb2) (hrow9.alloc _) (hC9.below hb2) hob (by rw [hrs]; omega) (Nat.le_refl _) (by omega) (by omega) (fun e => by rw [hrs] at e; omega) (fun e => by omega) hs38
           obtain ⟨g1, g2, g3⟩ := new_fin (w := w) (boxed_below hE9 hb2) hmd.1 hmd.2.1 hmd.2.2 (hB9.trans (hb2.mono hB9.size)) (by omega) hE3s hB3.size
           clear hmd hb2
           generalize (w9.alloc (.cells #[.slice d1' p.caps.length f1, .slice d2' p.codes.length f2, .slice d3' p.sites.length f3, .int .i64 (most : Int), .slice (some ⟨w8.heap.size, 0, none⟩) 1 1, .slice av Ds.length cv, .int .i64 0, .int .i64 0, .int .i64 0, .int .i64 0, .int .i64 0, .int .i64 0, .int .i64 0, .int .i64 0] 84)).setCell ⟨w.heap.size + 1, 0, none⟩ (.int .i64 0) = wf at g1 g2 g3 ⊢
           go_wp2_with fail
           exact new_ends (w.heap.size + 1) _ _ _ rfl rfl g1 g2 g3)
end
end Go.Proofs.YtdijhgaaeifbfaaGreat.Mdl
