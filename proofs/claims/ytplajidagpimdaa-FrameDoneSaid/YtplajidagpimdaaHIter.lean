/-
  The iterator frames: what it owes to a loop whose rounds are bounded by its body.
-/
import Derived.Test.YtplajidagpimdaaHRange
namespace Go.Proofs.Ytplajidagpimdaa
open Go.RowKit Go.Shelf

attribute [local go_sem] Oper.semAt_some

/-- What a round keeps for the iterator: all below hi, and all rows and maps but those of S. -/
structure KeepF (hi : Nat) (S : List Nat) (X Y : World) : Prop where
  size : X.heap.size ≤ Y.heap.size
  low : ∀ k, k < hi → Y.heap[k]? = X.heap[k]?
  same : ∀ (k : Nat) (o : Obj), X.heap[k]? = some o → (o.isCells = true ∨ o.isWalk = true) → k ∉ S → Y.heap[k]? = some o
theorem KeepF.trans {hi : Nat} {S : List Nat} {X Y Z : World} (h : KeepF hi S X Y) (k : KeepF hi S Y Z) : KeepF hi S X Z :=
  ⟨Nat.le_trans h.size k.size, fun i hi' => (k.low i hi').trans (h.low i hi'), fun i o ho hc hn => k.same i o (h.same i o ho hc hn) hc hn⟩
theorem KeepF.obj {hi : Nat} {S : List Nat} (W : World) (l : Nat) (o o' : Obj) (hl : hi ≤ l) (ho : W.heap[l]? = some o) (h1 : o.isCells = false) (h2 : o.isWalk = false) : KeepF hi S W (W.putObj l o') :=
  ⟨by simp [World.putObj], fun k hk => World.putObj_heap_other (by omega), fun k q hq hc _ => by
    by_cases e : k = l
    · subst e
      rw [ho] at hq
      cases hq
      rcases hc with hc | hc
      · rw [h1] at hc; cases hc
      · rw [h2] at hc; cases hc
    · exact (World.putObj_heap_other e).trans hq⟩
theorem KeepF.blk {hi : Nat} {S : List Nat} {X Y : World} (h : KeepF hi S X Y) {B : Nat} {t : TypeId} {cs : Array Value} (hb : Blk X B t cs) (hn : B ∉ S) : Blk Y B t cs := h.same B _ hb (.inl rfl) hn
theorem KeepF.doer {hi : Nat} {S : List Nat} {X Y : World} (h : KeepF hi S X Y) {A b T1 T2 M : Nat} (hd : Doer X A b T1 T2 M) (n1 : b ∉ S) (n2 : T1 ∉ S) (n3 : T2 ∉ S) (n4 : M ∉ S) : Doer Y A b T1 T2 M :=
  ⟨h.same _ _ hd.x (.inl rfl) n1, h.same _ _ hd.t1 (.inl rfl) n2, h.same _ _ hd.t2 (.inl rfl) n3, by
    obtain ⟨es, c, hi⟩ := hd.m.is
    exact hd.m.of_block ((h.same _ _ hi (.inr rfl) n4).trans hi.symm)⟩
theorem KeepF.prg {lo hi : Nat} {S : List Nat} {X Y : World} (h : KeepF hi S X Y) {v1 v2 v3 : Value} {p : Prg} (hp : PrgAt lo hi X v1 v2 v3 p) : PrgAt lo hi Y v1 v2 v3 p :=
  hp.stay (fun b _ hb => h.low b hb) (Nat.le_trans hp.top h.size)

def eOf (b : Bool) : Int := if b then 0 else 8
def encF (x : Fra × Bool) : Array Value := #[fraV x.1, .int .i64 (eOf x.2)]
/-- What is gone over: f and all that it comes to. -/
def itemF (p : Prg) (f : Fra) (k : Nat) : Fra × Bool := (runK p f k, locAt p (runK p f k))
def seqF (p : Prg) (f : Fra) (s : List (Fra × Bool)) : Prop := ∀ (k : Nat) (x : Fra × Bool), s[k]? = some x → x = itemF p f k
def BndF (C M : Nat) (s : List (Fra × Bool)) (X : World) : Prop := Boxed X C 3 (.int .i64 (s.length : Int)) ∧ s.length ≤ M
def cntF (C : Nat) (X : World) : Nat := match X.cell? ⟨C, 0, none⟩ with
  | some (.int _ i) => i.toNat
  | _ => 0
theorem BndF.cnt {C M : Nat} {s : List (Fra × Bool)} {X : World} (h : BndF C M s X) : cntF C X = s.length := by
  unfold cntF
  rw [h.1.cell]
  simp
theorem seqF_snoc {p : Prg} {f : Fra} {s : List (Fra × Bool)} (h : seqF p f s) : seqF p f (s ++ [itemF p f s.length]) := by
  intro k x hx
  by_cases hk : k < s.length
  · rw [List.getElem?_append_left hk] at hx; exact h k x hx
  · rw [List.getElem?_append_right (by omega)] at hx
    have : k = s.length := by
      have := (List.getElem?_eq_some_iff.1 hx).1
      simp at this; omega
    subst this
    simp at hx
    exact hx.symm

theorem frames_any (v1 v2 v3 : Value) (f : Fra) (w : World) :
    Calls Try.prog 29 #[.agg #[v1, v2, v3], fraV f] w fun e w' => e = .returned (.func (.func 44) #[] #[.pointer (some ⟨w.heap.size + 1, 0, none⟩), .pointer (some ⟨w.heap.size, 0, none⟩)]) ∧ w' = (w.alloc (.cells #[v1, v2, v3] 26)).alloc (.cells (fraA f) 29) := by
  have hmf : ∀ (fn : Fn) (first cap : Array Value) (w : World), (Instr.makeFunc fn first cap).run Try.prog w = .ok (.func fn first cap) w := fun _ _ _ _ => rfl
  go_enter Try.func29, Try.ntmps29
  go_wp2_with fail
  go_ret
  exact ⟨rfl, rfl⟩

theorem locE_of {p : Prg} {f : Fra} (h : (atF p f).isSome = true) : locE p f = eOf (locAt p f) := by
  obtain ⟨x, hx⟩ := Option.isSome_iff_exists.1 h
  unfold locE locAt eOf
  rw [hx]

/-- What holds at the head of a round. -/
structure HeadF (W : World) (lo hi : Nat) (v1 v2 v3 : Value) (p : Prg) (f : Fra) (PB A b : Nat) (s : List (Fra × Bool)) : Prop where
  prg : PrgAt lo hi W v1 v2 v3 p
  pb : Blk W PB 26 #[v1, v2, v3]
  fr : FrAt W A (runK p f s.length)
  at' : (atF p (runK p f s.length)).isSome = true
  doer : Doer W A b (A + 1) (A + 1 + 1) (A + 1 + 1 + 1)
  seq : seqF p f s

set_option maxRecDepth 100000 in
set_option maxHeartbeats 3200000 in
theorem frames1_upto {lo hi : Nat} {v1 v2 v3 : Value} {p : Prg} {f : Fra} {FB PB C M : Nat} {S : List Nat} (w : World) (h : PrgAt lo hi w v1 v2 v3 p) (hs : Small p) (hm : checkW p = none) (hP : Blk w PB 26 #[v1, v2, v3]) (hF : FrAt w FB f)
    (hS : ∀ k ∈ S, k < w.heap.size) (hPS : PB ∉ S) (hat : (atF p f).isSome = true) :
    SeqUpto Fence.wide 3 Try.prog 44 #[.pointer (some ⟨FB, 0, none⟩), .pointer (some ⟨PB, 0, none⟩)] encF (KeepF hi S) (BndF C M) (fun s => ∃ t x, s = t ++ [x] ∧ x.2 = false) (fun s => s ≠ [] ∧ seqF p f s) w := by
  intro l J Jx W hW hJ hJx hB hY h0
  have hFW : FrAt W FB f := hF.later hW hF.lt
  have hPW := hP.later hW hP.lt
  obtain ⟨W1, hW1⟩ : ∃ W1, W1 = W.alloc (.cells (fraA f) 29) := ⟨_, rfl⟩
  have hb1 : Below W.heap.size W W1 := by rw [hW1]; exact (Below.refl _ W).alloc (Nat.le_refl _) _
  have hA1 : FrAt W1 W.heap.size f := by rw [hW1]; exact blk_new W _ _
  have hs1 : W1.heap.size = W.heap.size + 1 := by rw [hW1]; simp
  have hdo := doer_any W.heap.size W1
  rw [hs1] at hdo
  have hh := h.later hW
  have hWsz := hW.size
  obtain ⟨q0, q1, q2, q3, q4, q5, q6, q7, q8, q9⟩ := fra_cells hFW
  refine callsIn_of_wp Try.func44 rfl trivial ?_ rfl
  simp only [Try.ntmps44, List.size_toArray, List.length_cons, List.length_nil, Nat.reduceAdd, Nat.reduceSub, Array.replicate_succ, Array.replicate_zero, List.push_toArray, List.append_toArray, List.nil_append, List.cons_append]
  gi_wp2
  rw [show (#[.int .i64 f.c, .int .i64 f.p, .int .i64 f.r0, .int .i64 f.r1, .int .i64 f.r2, .int .i64 f.r3, .int .i64 f.r4, .int .i64 f.r5, .int .i64 f.r6, .int .i64 f.r7] : Array Value) = fraA f from rfl, ← hW1]
  clear hW1 q0 q1 q2 q3 q4 q5 q6 q7 q8 q9 hFW
  refine ⟨trivial, (callsIn_wide.2 hdo).mono ?_⟩
  rintro e W2 ⟨X, rfl, hD2, hX2, hb2⟩
  have hb2' : Below W1.heap.size W1 W2 := by rw [hs1]; exact hb2
  have hBW : Below W.heap.size W W2 := below_next hb1 hb2' (Nat.le_refl _)
  have hH2 : HeadF W2 lo hi v1 v2 v3 p f PB W.heap.size X [] := ⟨hh.later hBW, hPW.later hBW hPW.lt, hA1.later hb2' hA1.lt, hat, hD2, fun k x hx => by simp at hx⟩
  have hJ2 : J [] W2 := hJ _ _ _ h0 hBW
  have hX : W.heap.size < X := by omega
  clear hdo hA1 hb1 hb2 hb2' hD2 h0 hX2 hs1 hPW hh
  unfold doerV
  gi_wp2
  gi_loopw [7] (fun iv wr => ∃ s : List (Fra × Bool), J s wr ∧ W.heap.size ≤ wr.heap.size ∧ HeadF wr lo hi v1 v2 v3 p f PB W.heap.size X s) (fun iv wr => M + 1 - cntF C wr)
  case atStart => exact ⟨[], hJ2, hBW.size, hH2⟩
  case round =>
    clear hJ2 hBW hH2
    obtain ⟨s, hJs, hBs, hH⟩ := hrel
    have hloc := local_any2 wr hH.prg hs hm (runK p f s.length)
    rw [locE_of hH.at'] at hloc
    obtain ⟨g, hg⟩ : ∃ g, g = runK p f s.length := ⟨_, rfl⟩
    have hfr := hH.fr
    have hgat := hH.at'
    rw [← hg] at hloc hfr hgat
    have hpb := hH.pb
    have p0 := hpb.cell (k := 0) (v := v1) rfl
    have p1 := hpb.cell (k := 1) (v := v2) rfl
    have p2 := hpb.cell (k := 2) (v := v3) rfl
    obtain ⟨q0, q1, q2, q3, q4, q5, q6, q7, q8, q9⟩ := fra_cells hfr
    have HG := Lib.hid hg
    clear hg
    gi_wp2
    refine ⟨trivial, (callsIn_wide.2 hloc).mono ?_⟩
    clear hloc p0 p1 p2 q0 q1 q2 q3 q4 q5 q6 q7 q8 q9
    rintro e w1 ⟨y, rfl, hy, hb⟩
    have HY := Lib.hid hy
    clear hy
    obtain ⟨w2, hw2⟩ : ∃ w2, w2 = w1.alloc (.cells #[.int .u8 (y.o : Int), .int .i64 y.a, .int .i64 y.b, .int .i64 y.c, .int .i64 y.k] 33) := ⟨_, rfl⟩
    have hb12 : Below wr.heap.size wr w2 := by rw [hw2]; exact hb.alloc hb.size _
    have hY2 : Blk w2 w1.heap.size 33 #[.int .u8 (y.o : Int), .int .i64 y.a, .int .i64 y.b, .int .i64 y.c, .int .i64 y.k] := by rw [hw2]; exact blk_new w1 _ _
    have hYW : wr.heap.size ≤ w1.heap.size := hb.size
    have hfr2 := hfr.later hb12 hfr.lt
    have hJw : J s w2 := hJ _ _ _ hJs (hb12.mono hBs)
    obtain ⟨q0, q1, q2, q3, q4, q5, q6, q7, q8, q9⟩ := fra_cells hfr2
    obtain ⟨fn, tmps, assign, body, hyy, hR⟩ := hY s (itemF p f s.length) w2 hJw
    have hit : itemF p f s.length = (g, locAt p g) := by unfold itemF; rw [← HG.out]
    rw [hit] at hyy hR
    simp only [encF] at hyy
    rw [hw2] at q0 q1 q2 q3 q4 q5 q6 q7 q8 q9 hyy
    gi_wp2
    rw [← hw2]
    have hD2 := hH.doer.later hb12
    have hp2 := hH.prg.later hb12
    have hpb2 := hpb.later hb12 hpb.lt
    have hBs2 : W.heap.size ≤ w2.heap.size := Nat.le_trans hBs hb12.size
    have hne : ∀ k, W.heap.size ≤ k → k ∉ S := fun k hk hn => by have := hS k hn; omega
    have hsq := seqF_snoc hH.seq
    rw [hit] at hsq
    have HSQ := Lib.hid hsq
    have hBl := Lib.hid (hB _ _ hJs)
    have hWs := hBs
    clear hw2 hyy q0 q1 q2 q3 q4 q5 q6 q7 q8 q9 hfr hb hJs hpb hb12 hH hsq hJw hit hBs
    refine hR.mono ?_
    clear hR
    rintro e w3 (⟨rfl, hJ3, hK⟩ | ⟨rfl, hJ3⟩)
    · have hfr3 := hK.blk hfr2 (hne _ (Nat.le_refl _))
      have hD3 := hK.doer hD2 (hne _ (by omega)) (hne _ (by omega)) (hne _ (by omega)) (hne _ (by omega))
      have hp3 := hK.prg hp2
      have hpb3 := hK.blk hpb2 hPS
      have hY3 := hK.blk hY2 (hne _ (by omega))
      have hB3 : W.heap.size ≤ w3.heap.size := Nat.le_trans hBs2 hK.size
      clear hfr2 hD2 hp2 hpb2 hY2
      cases hl : locAt p g with
      | false =>
        have HL := Lib.hid hl
        have e8 : eOf false = 8 := rfl
        rw [e8]
        clear hl
        gi_wp2
        refine bodyPost_ret (results_none rfl _ _ _) rfl ?_
        exact ⟨⟨_, rfl⟩, .inl ⟨_, ⟨s, _, rfl, HL.out⟩, hJ3⟩⟩
      | true =>
        have e0 : eOf true = 0 := rfl
        rw [e0]
        obtain ⟨x, hx⟩ := Option.isSome_iff_exists.1 hgat
        have hlo : locO x.o = true := by unfold locAt at hl; rw [hx] at hl; exact hl
        have hyx : y = x := by rw [HY.out, hx]; rfl
        subst hyx
        obtain ⟨hra, hrb⟩ := at_regs hm hx
        have hdo := does_any w3 hD3 hfr3 hlo hra hrb (at_pc hs hx)
        have HA := Lib.hid (doF_at hm hx hlo)
        have HX := Lib.hid hx
        clear hl hx hlo hra hrb hgat
        obtain ⟨i0, i1, i2, i3, i4⟩ := ins_cells (x := y) hY3
        gi_wp2
        refine ⟨trivial, (callsIn_wide.2 hdo).mono ?_⟩
        clear hdo i0 i1 i2 i3 i4
        rintro e w4 ⟨rfl, hfr4, hn4⟩
        have hb34 : Below W.heap.size w3 w4 := hn4.below hB3 (by simp)
        have hJ4 := hJ _ _ _ hJ3 hb34
        have HJ := Lib.hid (hB _ _ hJ4)
        gi_wp2
        go_roundw
        case rel =>
          refine ⟨_, hJ4, ?_, ?_⟩
          · exact Nat.le_trans hB3 hb34.size
          · have hPl := hP.lt
            have htop := h.top
            have hlen : (s ++ [(g, locAt p g)]).length = s.length + 1 := by simp
            have hrk : runK p f (s.length + 1) = doF y g := by
              show nextF p (runK p f s.length) = _
              rw [← HG.out]
              unfold nextF
              rw [HX.out]
            exact ⟨hp3.stay (fun b _ hb => hn4.block b (by have := hp3.top; omega) (by simp; omega)) (Nat.le_trans hp3.top hn4.size), but_on hpb3 hn4 (by omega), by rw [hlen, hrk]; exact hfr4, by rw [hlen, hrk]; exact HA.out.1, hD3.but hfr3 hn4, HSQ.out⟩
        case measure =>
          have hm1 := HJ.out.cnt
          have hm2 := hBl.out.cnt
          have hm3 := HJ.out.2
          rw [hm1, hm2]
          rw [List.length_append, List.length_singleton] at hm3 ⊢
          omega
    · gi_wp2
      refine bodyPost_ret (results_none rfl _ _ _) rfl ?_
      exact ⟨⟨_, rfl⟩, .inr ⟨_, ⟨by simp, HSQ.out⟩, hJ3⟩⟩
end Go.Proofs.Ytplajidagpimdaa
