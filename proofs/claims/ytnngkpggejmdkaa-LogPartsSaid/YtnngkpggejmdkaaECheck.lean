/-
  The walks of Check, Word.
-/
import Derived.Deep.Cut
import Derived.Deep.CutRange
import Derived.Deep.RegionHeld3
import Derived.Test.YtnngkpggejmdkaaEKindOf
namespace Go.Proofs.Ytnngkpggejmdkaa
open Go.RowKit SetM

def checkE (x : En) : Int := if okB x then 0 else 2
theorem below_two {n B : Nat} {w W : World} (h : Below n w W) (hB : n ≤ B) (a b : Value) : Below n w ((W.setCell ⟨B, 0, none⟩ a).setCell ⟨B, 1, none⟩ b) := (h.setCell (p := ⟨B, 0, none⟩) hB a).setCell (p := ⟨B, 1, none⟩) hB b
theorem sz1 (W : World) (o : Obj) : (W.alloc o).drew.heap.size = W.heap.size + 1 := World.size_alloc W o
theorem lt_al (w : World) (o : Obj) : w.heap.size < (w.alloc o).heap.size := by simp
theorem Below.al {n : Nat} {w W : World} (h : Below n w W) (hn : n ≤ W.heap.size) (o : Obj) : Below n w (W.alloc o) := h.alloc hn o
set_option maxRecDepth 100000 in
set_option maxHeartbeats 1600000 in
theorem check_any (x : En) (hx : x.ok) (w : World) :
    Calls Try.prog 11 #[x.val] w fun e w' => e = .returned (.int .i64 (checkE x)) ∧ Below w.heap.size w w' := by
  obtain ⟨wf, hwf⟩ : ∃ wf, wf = w.alloc (.cells #[.int .i64 x.a, .int .u8 (x.k : Int), .int .i64 x.w, .int .i64 x.t, .int .i64 x.p, .int .i64 x.c, .int .i64 x.b, .int .i64 x.q, .int .i64 x.v, .int .i64 x.u, .bool x.o, .int .i64 x.e, .int .u64 (x.s : Int)] 31) := ⟨_, rfl⟩
  have hB0 : Below w.heap.size w wf := by rw [hwf]; exact below1 w _
  have hX : EnAt wf w.heap.size x := by rw [hwf]; exact enAt_new w x
  obtain ⟨wd, hwd⟩ : ∃ wd : ByteArray, wd = ⟨(wordL x.k).toArray⟩ := ⟨_, rfl⟩
  obtain ⟨m, hm⟩ : ∃ m, m = maskN x.k := ⟨_, rfl⟩
  have hkv : kinV x.k = .agg #[.string wd, .int .u64 (m : Int)] := by rw [hwd, hm]; rfl
  clear hwd hm
  have hkX : ∀ W, Below wf.heap.size wf W → EnAt W w.heap.size x := fun W hW => hX.of_block (hW.block _ hX.lt)
  have hkS : ∀ W, Below wf.heap.size wf W → W.cell? ⟨w.heap.size, 0, none⟩ = some (.int .i64 x.a) ∧ W.cell? ⟨w.heap.size, 1, none⟩ = some (.int .u8 (x.k : Int)) ∧ W.cell? ⟨w.heap.size, 2, none⟩ = some (.int .i64 x.w) ∧ W.cell? ⟨w.heap.size, 3, none⟩ = some (.int .i64 x.t) ∧ W.cell? ⟨w.heap.size, 4, none⟩ = some (.int .i64 x.p) ∧ W.cell? ⟨w.heap.size, 5, none⟩ = some (.int .i64 x.c) ∧ W.cell? ⟨w.heap.size, 6, none⟩ = some (.int .i64 x.b) ∧ W.cell? ⟨w.heap.size, 7, none⟩ = some (.int .i64 x.q) ∧ W.cell? ⟨w.heap.size, 8, none⟩ = some (.int .i64 x.v) ∧ W.cell? ⟨w.heap.size, 9, none⟩ = some (.int .i64 x.u) ∧ W.cell? ⟨w.heap.size, 10, none⟩ = some (.bool x.o) ∧ W.cell? ⟨w.heap.size, 11, none⟩ = some (.int .i64 x.e) ∧ W.cell? ⟨w.heap.size, 12, none⟩ = some (.int .u64 (x.s : Int)) ∧ Below wf.heap.size wf W := fun W hW => by
    have h := hkX W hW
    exact ⟨h.c0, h.c1, h.c2, h.c3, h.c4, h.c5, h.c6, h.c7, h.c8, h.c9, h.c10, h.c11, h.c12, hW⟩
  have ck : ∀ W M, M = W.heap.size → Below wf.heap.size wf W → Calls Try.prog 27 #[] W fun e w' => e = .returned (.map (some M)) ∧ (∀ W', Below w'.heap.size w' W' → KMap W' M kindsL) ∧ Below wf.heap.size wf w' ∧ Below W.heap.size W w' := fun W M hM hW =>
    (kinds_any W).mono fun e w' ⟨h1, h2, h3⟩ => by
      subst hM
      exact ⟨h1, fun W' hW' => h2.fresh (But.of_below hW' []), below_nx hW h3 (Nat.le_refl _), h3⟩
  have co : ∀ W M, Below wf.heap.size wf W → KMap W M kindsL → Calls Try.prog 26 #[.map (some M), .agg #[.int .i64 x.a, .int .u8 (x.k : Int), .int .i64 x.w, .int .i64 x.t, .int .i64 x.p, .int .i64 x.c, .int .i64 x.b, .int .i64 x.q, .int .i64 x.v, .int .i64 x.u, .bool x.o, .int .i64 x.e, .int .u64 (x.s : Int)]] W fun e w' => e = .returned (.tuple #[.agg #[.string wd, .int .u64 (m : Int)], .bool (okB x)]) ∧ Below wf.heap.size wf w' ∧ Below W.heap.size W w' := fun W M hW hM => by
    have := kindOf_any M x hx W hM
    rw [hkv] at this
    exact this.mono fun e w' ⟨h1, h2⟩ => ⟨h1, below_nx hW h2 (Nat.le_refl _), h2⟩
  have r0 : Below wf.heap.size wf wf.drew := (Below.refl _ _).drew
  have r1 : ∀ o, Below wf.heap.size wf (wf.alloc o).drew := fun o => ((Below.refl _ _).alloc (Nat.le_refl _) o).drew
  have tw : Two (wf.alloc (.cells #[.string ⟨#[]⟩, .int .u64 0] 51)).drew wf.heap.size 51 (.string ⟨#[]⟩) (.int .u64 0) := two_new wf _ _ _
  have tl := tw.lt
  unfold En.val
  go_enter Try.func11, Try.ntmps11
  go_upto_region 1 with fail
  rw [← hwf]
  clear hwf hkv
  go_cut [3, 4] from 5 to 10 (fun kv bv W => ∃ B, kv = .pointer (some ⟨B, 0, none⟩) ∧ bv = .bool (okB x) ∧ KdAt W B wd m ∧ w.heap.size < B ∧ Below wf.heap.size wf W)
  case first =>
    go_region_held3 (fun w' => w'.cell? ⟨w.heap.size, 0, none⟩ = some (.int .i64 x.a) ∧ w'.cell? ⟨w.heap.size, 1, none⟩ = some (.int .u8 (x.k : Int)) ∧ w'.cell? ⟨w.heap.size, 2, none⟩ = some (.int .i64 x.w) ∧ w'.cell? ⟨w.heap.size, 3, none⟩ = some (.int .i64 x.t) ∧ w'.cell? ⟨w.heap.size, 4, none⟩ = some (.int .i64 x.p) ∧ w'.cell? ⟨w.heap.size, 5, none⟩ = some (.int .i64 x.c) ∧ w'.cell? ⟨w.heap.size, 6, none⟩ = some (.int .i64 x.b) ∧ w'.cell? ⟨w.heap.size, 7, none⟩ = some (.int .i64 x.q) ∧ w'.cell? ⟨w.heap.size, 8, none⟩ = some (.int .i64 x.v) ∧ w'.cell? ⟨w.heap.size, 9, none⟩ = some (.int .i64 x.u) ∧ w'.cell? ⟨w.heap.size, 10, none⟩ = some (.bool x.o) ∧ w'.cell? ⟨w.heap.size, 11, none⟩ = some (.int .i64 x.e) ∧ w'.cell? ⟨w.heap.size, 12, none⟩ = some (.int .u64 (x.s : Int)) ∧ Below wf.heap.size wf w')
      ((refine hkS _ ?_; with_reducible first | exact r0 | exact r1 _ | exact hb2 | exact hb3 | exact Below.al hb2 hb2.size _ | exact Below.al hb3 hb3.size _ | exact below_two hb3 hb2.size _ _ | exact below_two hb3 (Nat.le_refl _) _ _))
      ((first
        | (go_at_call 27; with_reducible refine (ck wf.drew wf.heap.size rfl r0).mono ?_; rintro e w2 ⟨rfl, hK, hb2, hn2⟩)
        | (go_at_call 27; with_reducible refine (ck (wf.alloc _).drew (wf.heap.size + 1) (sz1 _ _).symm (r1 _)).mono ?_; rintro e w2 ⟨rfl, hK, hb2, hn2⟩; have t2 : Two w2 wf.heap.size 51 (.string ⟨#[]⟩) (.int .u64 0) := tw.of_block (hn2.block _ tl))
        | (go_at_call 26; with_reducible refine (co _ _ (by with_reducible first | exact hb2 | exact Below.al hb2 hb2.size _) (hK _ (by with_reducible first | exact Below.refl _ _ | exact below1 _ _))).mono ?_; rintro e w3 ⟨rfl, hb3, hn3⟩; first | (have t3 := (by with_reducible exact t2.of_block (hn3.block _ t2.lt) : Two w3 wf.heap.size 51 (.string ⟨#[]⟩) (.int .u64 0)); have q0 := t3.c0; have q1 := t3.c1; have f0 := t3.frozen 0; have f1 := t3.frozen 1) | (have t3 : Two w3 w2.heap.size 51 (.string ⟨#[]⟩) (.int .u64 0) := (by with_reducible exact (two_new w2 _ _ _).of_block (hn3.block _ (lt_al w2 _))); have q0 := t3.c0; have q1 := t3.c1; have f0 := t3.frozen 0; have f1 := t3.frozen 1) | skip)))
    all_goals go_wp2_with fail
    all_goals go_meet
    all_goals first
      | exact ⟨_, rfl, rfl, t3.set _ _, Nat.lt_of_lt_of_le hX.lt hb2.size, below_two hb3 hb2.size _ _⟩
      | exact ⟨_, rfl, rfl, t3.set _ _, hX.lt, below_two hb3 (Nat.le_refl _) _ _⟩
      | exact ⟨_, rfl, rfl, two_new w3 _ _ _, Nat.lt_of_lt_of_le hX.lt hb3.size, Below.al hb3 hb3.size _⟩
  case rest =>
    obtain ⟨B, rfl, rfl, _, _, hb⟩ := hcut
    have hB := below_nx hB0 hb (Nat.le_refl _)
    cases hok : okB x with
    | true =>
      have HE : Hid (checkE x = 0) := Lib.hid (by unfold checkE; rw [hok]; rfl)
      clear hok
      go_wp2_with fail
      go_ret
      exact ⟨ret_v (by rw [HE.out]; rfl), hB⟩
    | false =>
      have HE : Hid (checkE x = 2) := Lib.hid (by unfold checkE; rw [hok]; rfl)
      clear hok
      go_wp2_with fail
      go_ret
      exact ⟨ret_v (by rw [HE.out]; rfl), hB⟩

end Go.Proofs.Ytnngkpggejmdkaa
