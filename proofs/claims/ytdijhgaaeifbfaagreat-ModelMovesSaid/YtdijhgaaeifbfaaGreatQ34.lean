/-
  ModelMoves: its walks, part 34: DMvs DInv.
-/
import Derived.Test.YtdijhgaaeifbfaaGreatQ00
import Derived.Test.YtdijhgaaeifbfaaGreatQ32
import Derived.Test.YtdijhgaaeifbfaaGreatQ33
set_option maxRecDepth 100000
set_option maxHeartbeats 12800000
namespace Go.Proofs.YtdijhgaaeifbfaaGreat.Mdl
open Go.RowKit
open Ent (En EnRow EnAt en_one)
open Mch (grown_below below1 below_nx owns_slice' boxed_below)
structure Sane (M : Mod) : Prop where
  chk : checkW M.p = none
  small : Small M.p
  tl : M.T.length <= 1000
  cl : M.C.length <= 6
  wl : ∀ i, (M.ch i).S.length <= 900 /\ (M.ch i).R.length <= 900
  st : ∀ t, (M.stand t).2 = 0 -> Stands M (M.stand t).1 (M.does t)
theorem moves_none {o : Nat -> Nat} {B : Nat} {M : Mod} (t : Int) (w : World) (h : Md w o B M) (hS : Sane M) (hy : M.task t = none) :
    Calls Tryz.prog 11 #[ptrV B, .int .i64 t] w fun e w' => ∃ v, e = .returned v /\ EnNew w.heap.size w' v (M.moves t) /\ Below w.heap.size w w' := by
  have htk := task_any t w h hS.tl
  have HM : Hid (M.moves t = []) := Lib.hid (by unfold Mod.moves; rw [hy])
  rw [hy] at htk
  clear hy hS
  obtain ⟨P, hP⟩ : ∃ P, P = Option.getD (none : Option Pla) Pla.zero := ⟨_, rfl⟩
  rw [<- hP] at htk
  have htk' : Calls Tryz.prog 15 #[ptrV B, .int .i64 t] w fun e w' => e = .returned (.tuple #[plaV P, .bool false]) /\ Below w.heap.size w w' := htk
  clear htk hP
  go_enter Tryz.func11, Tryz.ntmps11
  go_wp2_with fail
  refine htk'.mono ?_
  rintro e w1 ⟨rfl, hb1⟩
  have hB2 := Mch.Below.al hb1 hb1.size (.cells (plaA P) 52)
  go_wp2_with fail
  go_ret
  rw [HM.out]
  exact ⟨_, rfl, EnNew.nil _ _, hB2⟩
theorem moves_halted {o : Nat -> Nat} {B : Nat} {M : Mod} (t : Int) (w : World) (h : Md w o B M) (hS : Sane M) {y : Pla} (hy : M.task t = some y) (he : ¬ M.e = 0) :
    Calls Tryz.prog 11 #[ptrV B, .int .i64 t] w fun e w' => ∃ v, e = .returned v /\ EnNew w.heap.size w' v (M.moves t) /\ Below w.heap.size w w' := by
  have htk := task_any t w h hS.tl
  rw [hy] at htk
  have htk' : Calls Tryz.prog 15 #[ptrV B, .int .i64 t] w fun e w' => e = .returned (.tuple #[plaV y, .bool true]) /\ Below w.heap.size w w' := htk
  clear htk
  have hhl := fun W (hW : Below w.heap.size w W) => halted_any W (h.below hW)
  have HM : Hid (M.moves t = []) := Lib.hid (by unfold Mod.moves; rw [hy]; simp only; rw [if_pos he])
  have hne : (M.e != 0) = true := by simpa using he
  rw [hne] at hhl
  clear hy hS he hne
  go_enter Tryz.func11, Tryz.ntmps11
  go_wp2_with fail
  refine htk'.mono ?_
  rintro e w1 ⟨rfl, hb1⟩
  have hB2 := Mch.Below.al hb1 hb1.size (.cells (plaA y) 52)
  have hh2 := hhl _ hB2
  go_wp2_with fail
  refine hh2.mono ?_
  rintro e w2 ⟨rfl, rfl⟩
  go_wp2_with fail
  go_ret
  rw [HM.out]
  exact ⟨_, rfl, EnNew.nil _ _, hB2⟩
theorem moves_waits {o : Nat -> Nat} {B : Nat} {M : Mod} (t : Int) (w : World) (h : Md w o B M) (hS : Sane M) {y : Pla} (hy : M.task t = some y) (he : M.e = 0) (h2 : y.s = 2) :
    Calls Tryz.prog 11 #[ptrV B, .int .i64 t] w fun e w' => ∃ v, e = .returned v /\ EnNew w.heap.size w' v (M.moves t) /\ Below w.heap.size w w' := by
  have htk := task_any t w h hS.tl
  rw [hy] at htk
  have htk' : Calls Tryz.prog 15 #[ptrV B, .int .i64 t] w fun e w' => e = .returned (.tuple #[plaV y, .bool true]) /\ Below w.heap.size w w' := htk
  clear htk
  have hhl := fun W (hW : Below w.heap.size w W) => halted_any W (h.below hW)
  have hne : (M.e != 0) = false := by simp [he]
  rw [hne] at hhl
  have HM : Hid (M.moves t = befalls M t) := Lib.hid (by unfold Mod.moves; rw [hy]; simp only; rw [if_neg (by simp [he]), if_pos h2])
  have hbf := fun W (hW : Below w.heap.size w W) => befalls_any t W (h.below hW) hS.wl hS.cl
  obtain ⟨L, hL⟩ : ∃ L, L = befalls M t := ⟨_, rfl⟩
  rw [<- hL] at HM
  simp only [<- hL] at hbf
  obtain ⟨ys, yf⟩ := y
  simp only at h2
  subst h2
  clear hL hy hS he hne
  go_enter Tryz.func11, Tryz.ntmps11
  go_wp2_with fail
  refine htk'.mono ?_
  rintro e w1 ⟨rfl, hb1⟩
  have hB2 := Mch.Below.al hb1 hb1.size (.cells (plaA ⟨2, yf⟩) 52)
  have hh2 := hhl _ hB2
  have hb2 := hbf _ hB2
  go_wp2_with fail
  refine hh2.mono ?_
  rintro e w2 ⟨rfl, rfl⟩
  go_wp2_with fail
  refine hb2.mono ?_
  rintro e w3 ⟨v, rfl, hR, hb3⟩
  obtain ⟨a, c, rfl⟩ := hR.slice
  go_wp2_with fail
  go_ret
  rw [HM.out]
  exact ⟨_, rfl, hR.mono hB2.size, below_nx hB2 hb3 (Nat.le_refl _)⟩
theorem moves_stays {o : Nat -> Nat} {B : Nat} {M : Mod} (t : Int) (w : World) (h : Md w o B M) (hS : Sane M) {y : Pla} (hy : M.task t = some y) (he : M.e = 0) (h2 : ¬ y.s = 2) (hst : ¬ (M.stand t).2 = 0) :
    Calls Tryz.prog 11 #[ptrV B, .int .i64 t] w fun e w' => ∃ v, e = .returned v /\ EnNew w.heap.size w' v (M.moves t) /\ Below w.heap.size w w' := by
  have htk := task_any t w h hS.tl
  rw [hy] at htk
  have htk' : Calls Tryz.prog 15 #[ptrV B, .int .i64 t] w fun e w' => e = .returned (.tuple #[plaV y, .bool true]) /\ Below w.heap.size w w' := htk
  clear htk
  have hhl := fun W (hW : Below w.heap.size w W) => halted_any W (h.below hW)
  have hne : (M.e != 0) = false := by simp [he]
  rw [hne] at hhl
  have hn2 : ((y.s : Int) == 2) = false := by simp; omega
  have HM : Hid (M.moves t = []) := Lib.hid (by unfold Mod.moves; rw [hy]; simp only; rw [if_neg (by simp [he]), if_neg h2, if_pos hst])
  have hsa := fun W (hW : Below w.heap.size w W) => standAt_no t W (h.below hW) hS.tl hS.chk hS.small hst
  clear hst hy hS he hne h2
  go_enter Tryz.func11, Tryz.ntmps11
  go_wp2_with fail
  refine htk'.mono ?_
  rintro e w1 ⟨rfl, hb1⟩
  have hB2 := Mch.Below.al hb1 hb1.size (.cells (plaA y) 52)
  have hh2 := hhl _ hB2
  have hs2 := hsa _ hB2
  go_wp2_with fail
  refine hh2.mono ?_
  rintro e w2 ⟨rfl, rfl⟩
  go_wp2_with fail
  refine hs2.mono ?_
  rintro e w3 ⟨rfl, hb3⟩
  have hB3 := below_nx hB2 hb3 (Nat.le_refl _)
  go_wp2_with fail
  go_ret
  rw [HM.out]
  exact ⟨_, rfl, EnNew.nil _ _, Mch.Below.al hB3 hB3.size _⟩
theorem moves_runs {o : Nat -> Nat} {B : Nat} {M : Mod} (t : Int) (w : World) (h : Md w o B M) (hS : Sane M) {y : Pla} (hy : M.task t = some y) (he : M.e = 0) (h2 : ¬ y.s = 2) (hst : (M.stand t).2 = 0) :
    Calls Tryz.prog 11 #[ptrV B, .int .i64 t] w fun e w' => ∃ v, e = .returned v /\ EnNew w.heap.size w' v (M.moves t) /\ Below w.heap.size w w' := by
  have htk := task_any t w h hS.tl
  rw [hy] at htk
  have htk' : Calls Tryz.prog 15 #[ptrV B, .int .i64 t] w fun e w' => e = .returned (.tuple #[plaV y, .bool true]) /\ Below w.heap.size w w' := htk
  clear htk
  have hhl := fun W (hW : Below w.heap.size w W) => halted_any W (h.below hW)
  have hne : (M.e != 0) = false := by simp [he]
  rw [hne] at hhl
  have hn2 : ((y.s : Int) == 2) = false := by simp; omega
  obtain ⟨x, hx, hdo, -⟩ := stand_at hS.chk hst
  have hSt := hS.st t hst
  have HM : Hid (M.moves t = mayE M t (M.stand t).1 (M.does t)) := Lib.hid (by unfold Mod.moves; rw [hy]; simp only; rw [if_neg (by simp [he]), if_neg h2, if_neg (by simp [hst])])
  rw [hdo] at HM hSt
  obtain ⟨f, hf⟩ : ∃ f, f = (M.stand t).1 := ⟨_, rfl⟩
  rw [<- hf] at HM hSt hx
  have hst0 : M.stand t = (f, 0) := by rw [hf, <- hst]
  have hsa := fun W (hW : Below w.heap.size w W) => standAt_ok t W (h.below hW) hS.tl hS.chk hS.small hst0 hx
  have hru := fun W => rule_any B t f x W hSt.lo hSt.hi
  have hma := fun W (hW : Below w.heap.size w W) => may_any t f x W (h.below hW) hSt hS.wl hS.tl
  obtain ⟨F1, hF1⟩ : ∃ F1, F1 = tryF B t f x x.o := ⟨_, rfl⟩
  have hrv : rulV B t f x x.o = .agg #[F1, .func (.func (mayK x.o)) #[stdV B t f x] #[]] := by unfold rulV; rw [mayF_eq _ _ _ _ _ hSt.lo hSt.hi, hF1]
  simp only [hrv] at hru
  have hen := may_enters x.o
  obtain ⟨KF, hKF⟩ : ∃ KF, KF = mayK x.o := ⟨_, rfl⟩
  simp only [<- hKF] at hru hma hen
  have qf : ∀ W : World, (Instr.field 96 (.agg #[F1, .func (.func KF) #[stdV B t f x] #[]]) 1).run Tryz.prog W = .ok (.func (.func KF) #[stdV B t f x] #[]) W := fun W => rul_may _ _ W
  obtain ⟨L, hL⟩ : ∃ L, L = mayE M t f x := ⟨_, rfl⟩
  rw [<- hL] at HM
  simp only [<- hL] at hma
  clear hF1 hrv hKF hL hst0 hf hSt hdo hx hst hy hS he hne h2
  go_enter Tryz.func11, Tryz.ntmps11
  go_wp2_with fail
  refine htk'.mono ?_
  rintro e w1 ⟨rfl, hb1⟩
  have hB2 := Mch.Below.al hb1 hb1.size (.cells (plaA y) 52)
  have hh2 := hhl _ hB2
  have hs2 := hsa _ hB2
  go_wp2_with fail
  refine hh2.mono ?_
  rintro e w2 ⟨rfl, rfl⟩
  go_wp2_with fail
  refine hs2.mono ?_
  rintro e w3 ⟨rfl, hb3⟩
  have hB3 := below_nx hB2 hb3 (Nat.le_refl _)
  go_upto_region 7 with fail
  obtain ⟨w4, hw4⟩ : ∃ w4, w4 = w3.alloc (.cells (stdA B t f x) 90) := ⟨_, rfl⟩
  have hB4 : Below w.heap.size w w4 := by rw [hw4]; exact Mch.Below.al hB3 hB3.size _
  have hS4 : StAt w4 w3.heap.size B t f x := by rw [hw4]; exact blk_new w3 _ _
  rw [<- hw4]
  clear hw4 hh2 hs2 hhl hsa hb1 hb3
  obtain ⟨s0, s1, s2, s3, s4, s5, s6, s7, s8, s9, s10, s11, s12, s13, s14, s15, s16⟩ := std_cells hS4
  go_wp2_with fail
  refine (hru _).mono ?_
  rintro e w5 ⟨rfl, hb5⟩
  have hB5 := below_nx hB4 hb5 (Nat.le_refl _)
  have hm5 := hma _ hB5
  clear s0 s1 s2 s3 s4 s5 s6 s7 s8 s9 s10 s11 s12 s13 s14 s15 s16 hS4 hru hma
  go_wp2_with fail
  refine hm5.mono ?_
  rintro e w6 ⟨v, rfl, hR, hb6⟩
  obtain ⟨a, c, rfl⟩ := hR.slice
  go_wp2_with fail
  go_ret
  rw [HM.out]
  exact ⟨_, rfl, hR.mono hB5.size, below_nx hB5 hb6 (Nat.le_refl _)⟩
theorem mmoves_any {o : Nat -> Nat} {B : Nat} {M : Mod} (t : Int) (w : World) (h : Md w o B M) (hS : Sane M) :
    Calls Tryz.prog 11 #[ptrV B, .int .i64 t] w fun e w' => ∃ v, e = .returned v /\ EnNew w.heap.size w' v (M.moves t) /\ Below w.heap.size w w' := by
  cases hy : M.task t with
  | none => exact moves_none t w h hS hy
  | some y =>
    by_cases he : M.e = 0
    case neg => exact moves_halted t w h hS hy he
    case pos =>
      by_cases h2 : y.s = 2
      · exact moves_waits t w h hS hy he h2
      · by_cases hst : (M.stand t).2 = 0
        · exact moves_runs t w h hS hy he h2 hst
        · exact moves_stays t w h hS hy he h2 hst
open Go.RowKit
open Ent (En okB)
open Mch (Wt whatK putL toSendK toRecvK)
theorem nodup_le : ∀ (N : Nat) (l : List Nat), l.Nodup -> (∀ x ∈ l, x < N) -> l.length <= N
  | 0, l, _, h => by
    cases l with
    | nil => exact Nat.le_refl _
    | cons x t => exact absurd (h x (List.mem_cons_self ..)) (Nat.not_lt_zero _)
  | N + 1, l, hn, h => by
    have h1 : (l.erase N).length <= N := nodup_le N (l.erase N) (hn.erase N) (fun x hx => by
      obtain ⟨hne, hm⟩ := (List.Nodup.mem_erase_iff hn).1 hx
      have := h x hm
      omega)
    by_cases hm : N ∈ l
    · rw [List.length_erase_of_mem hm] at h1; omega
    · rw [List.erase_of_not_mem hm] at h1; omega
def WtOk (n : Nat) (x : Wt) : Prop := (0 <= x.t /\ x.t < (n : Int)) /\ (-1 <= x.c /\ x.c < 6) /\ I64b x.v
def Apart (l : List Wt) : Prop := l.Pairwise fun x y => ¬ (y.t = x.t /\ y.c = x.c)
theorem apart_len {n : Nat} {l : List Wt} (ha : Apart l) (hw : ∀ x ∈ l, WtOk n x) : l.length <= n * 7 := by
  have h1 := nodup_le (n * 7) (l.map fun x => x.t.toNat * 7 + (x.c + 1).toNat) ?_ ?_
  · simpa using h1
  · rw [List.Nodup, List.pairwise_map]
    refine List.Pairwise.imp_of_mem ?_ ha
    intro x y hx hy hne e
    obtain ⟨⟨a1, a2⟩, ⟨a3, a4⟩, _⟩ := hw x hx
    obtain ⟨⟨b1, b2⟩, ⟨b3, b4⟩, _⟩ := hw y hy
    exact hne ⟨by omega, by omega⟩
  · intro k hk
    obtain ⟨x, hx, rfl⟩ := List.mem_map.1 hk
    obtain ⟨⟨a1, a2⟩, ⟨a3, a4⟩, _⟩ := hw x hx
    omega
theorem putL_room {m : Nat} {l : List Int} (h : l.length < m) (v : Int) : putL m l v = l ++ [v] := by unfold putL; rw [if_neg (by omega)]
structure ChOk (n : Nat) (c : Cha) : Prop where
  len : c.buf.length <= c.m
  full : c.S ≠ [] -> c.buf.length = c.m
  emp : c.R ≠ [] -> c.buf = []
  bv : ∀ v ∈ c.buf, I64b v
  sw : ∀ x ∈ c.S, WtOk n x
  rw_ : ∀ x ∈ c.R, WtOk n x
  su : Apart c.S
  ru : Apart c.R
section
variable {n : Nat} {c : Cha}
theorem ChOk.more (h : ChOk n c) {k : Nat} (hk : n <= k) : ChOk k c :=
  ⟨h.len, h.full, h.emp, h.bv, fun x hx => by obtain ⟨⟨a, b⟩, d⟩ := h.sw x hx; exact ⟨⟨a, by omega⟩, d⟩, fun x hx => by obtain ⟨⟨a, b⟩, d⟩ := h.rw_ x hx; exact ⟨⟨a, by omega⟩, d⟩, h.su, h.ru⟩
theorem ChOk.close (h : ChOk n c) : ChOk n c.close := ⟨h.len, h.full, h.emp, h.bv, h.sw, h.rw_, h.su, h.ru⟩
theorem unlike_sub (t : Int) (l : List Wt) : ∀ x ∈ unlike t l, x ∈ l := fun _ hx => (List.mem_filter.1 hx).1
theorem unlike_ne {t : Int} {l : List Wt} (h : unlike t l ≠ []) : l ≠ [] := fun e => h (by rw [e]; rfl)
theorem apart_unlike {t : Int} {l : List Wt} (h : Apart l) : Apart (unlike t l) := List.Pairwise.filter _ h
theorem ChOk.drop (h : ChOk n c) (t : Int) : ChOk n (c.drop t) :=
  ⟨h.len, fun e => h.full (unlike_ne e), fun e => h.emp (unlike_ne e), h.bv, fun x hx => h.sw x (unlike_sub t _ x hx), fun x hx => h.rw_ x (unlike_sub t _ x hx), apart_unlike h.su, apart_unlike h.ru⟩
theorem apart_wait {x : Wt} {l : List Wt} (h : Apart l) : Apart (waitL x l) := by
  unfold waitL
  split
  · exact h
  · rename_i hn
    refine List.pairwise_append.2 ⟨h, List.pairwise_singleton _ _, ?_⟩
    intro y hy z hz e
    obtain rfl := List.mem_singleton.1 hz
    refine hn (List.any_eq_true.2 ⟨y, hy, ?_⟩)
    unfold likeB
    simp [e.1, e.2]
theorem mem_wait {x y : Wt} {l : List Wt} (h : y ∈ waitL x l) : y ∈ l \/ y = x := by
  unfold waitL at h
  split at h
  · exact .inl h
  · rcases List.mem_append.1 h with h | h
    · exact .inl h
    · exact .inr (List.mem_singleton.1 h)
theorem ChOk.wait (h : ChOk n c) {x : Wt} (hx : WtOk n x) {s : Bool} (hs : s = true -> c.buf.length = c.m) (hr : s = false -> c.buf = []) : ChOk n (c.wait s x) := by
  cases s with
  | true =>
    exact ⟨h.len, fun _ => hs rfl, h.emp, h.bv, fun y hy => (mem_wait hy).elim (h.sw y) (fun e => by rw [e]; exact hx), h.rw_, apart_wait h.su, h.ru⟩
  | false =>
    exact ⟨h.len, h.full, fun _ => hr rfl, h.bv, h.sw, fun y hy => (mem_wait hy).elim (h.rw_ y) (fun e => by rw [e]; exact hx), h.su, apart_wait h.ru⟩
theorem tail_mem {α : Type} {l : List α} {x : α} (h : x ∈ l.tail) : x ∈ l := List.mem_of_mem_tail h
theorem apart_tail {l : List Wt} (h : Apart l) : Apart l.tail := by cases l with
  | nil => exact h
  | cons x t => exact (List.pairwise_cons.1 h).2
theorem head_mem {l : List Wt} (h : l ≠ []) : headW l ∈ l := by cases l with
  | nil => exact absurd rfl h
  | cons x t => exact List.mem_cons_self ..
theorem ChOk.serve (h : ChOk n c) (s : Bool) {v : Int} (hv : I64b v) : ChOk n (c.serve s v) := by
  obtain ⟨m, cl, buf, S, R⟩ := c
  obtain ⟨h1, h2, h3, h4, h5, h6, h7, h8⟩ := h
  simp only at h1 h2 h3 h4 h5 h6 h7 h8
  unfold Cha.serve
  split
  · exact ⟨h1, h2, fun e => h3 (fun e' => e (by rw [e']; rfl)), h4, h5, fun x hx => h6 x (tail_mem hx), h7, apart_tail h8⟩
  · exact ⟨h1, fun e => h2 (fun e' => e (by rw [e']; rfl)), h3, h4, fun x hx => h5 x (tail_mem hx), h6, apart_tail h7, h8⟩
  · rename_i hw
    have hlt : buf.length < m /\ R = [] := by
      simp only [Cha.what, whatK, toSendK] at hw
      split at hw
      · split at hw
        · exact absurd hw (by simp)
        · split at hw
          · exact absurd hw (by simp)
          · split at hw
            · rename_i hR hlt; exact ⟨hlt, by simpa using hR⟩
            · exact absurd hw (by simp)
      · contradiction
    have hS : S = [] := by
      cases S with
      | nil => rfl
      | cons x t => have := h2 (by simp); omega
    have hR := hlt.2
    subst hS hR
    rw [putL_room hlt.1]
    refine ⟨by simp; omega, fun e => absurd rfl e, fun e => absurd rfl e, ?_, by simp, by simp, List.Pairwise.nil, List.Pairwise.nil⟩
    intro y hy
    rcases List.mem_append.1 hy with hy | hy
    · exact h4 y hy
    · rw [List.mem_singleton.1 hy]; exact hv
  · rename_i hw
    have hS : S = [] /\ buf ≠ [] := by
      simp only [Cha.what, whatK, toRecvK] at hw
      split at hw
      · contradiction
      · split at hw
        · split at hw <;> exact absurd hw (by simp)
        · rename_i hS
          split at hw
          · rename_i hb; exact ⟨by simpa using hS, hb⟩
          · split at hw <;> exact absurd hw (by simp)
    obtain ⟨hS, hb⟩ := hS
    have hR : R = [] := by
      cases R with
      | nil => rfl
      | cons x t => exact absurd (h3 (by simp)) hb
    subst hS hR
    exact ⟨by simp; omega, fun e => absurd rfl e, fun e => absurd rfl e, fun x hx => h4 x (tail_mem hx), by simp, by simp, List.Pairwise.nil, List.Pairwise.nil⟩
  · rename_i hw
    have hS : S ≠ [] /\ m ≠ 0 := by
      simp only [Cha.what, whatK, toRecvK] at hw
      split at hw
      · contradiction
      · split at hw
        · rename_i hS
          split at hw
          · exact absurd hw (by simp)
          · rename_i hm; exact ⟨hS, hm⟩
        · split at hw
          · exact absurd hw (by simp)
          · split at hw <;> exact absurd hw (by simp)
    obtain ⟨hS, hm⟩ := hS
    have hbl := h2 hS
    have hR : R = [] := by
      cases R with
      | nil => rfl
      | cons x t => have := h3 (by simp); rw [this] at hbl; simp at hbl; omega
    have htl : buf.tail.length < m := by simp; omega
    rw [putL_room htl]
    refine ⟨by simp; omega, fun _ => by simp; omega, fun e => absurd hR e, ?_, fun x hx => h5 x (tail_mem hx), h6, apart_tail h7, h8⟩
    intro y hy
    rcases List.mem_append.1 hy with hy | hy
    · exact h4 y (tail_mem hy)
    · rw [List.mem_singleton.1 hy]; exact (h5 _ (head_mem hS)).2.2
  · exact ⟨h1, h2, h3, h4, h5, h6, h7, h8⟩
theorem serve_cl (s : Bool) (v : Int) : (c.serve s v).cl = c.cl := by unfold Cha.serve; split <;> rfl
theorem wait_cl (s : Bool) (x : Wt) : (c.wait s x).cl = c.cl := by unfold Cha.wait; split <;> rfl
theorem wait_m (s : Bool) (x : Wt) : (c.wait s x).m = c.m := by unfold Cha.wait; split <;> rfl
theorem wait_buf (s : Bool) (x : Wt) : (c.wait s x).buf = c.buf := by unfold Cha.wait; split <;> rfl
theorem what_six (h : ChOk n c) {s : Bool} (hw : c.what s = 6) : c.cl = false /\ (s = true -> c.buf.length = c.m) /\ (s = false -> c.buf = []) := by
  obtain ⟨m, cl, buf, S, R⟩ := c
  have h1 := h.len
  simp only at h1
  cases s with
  | true =>
    simp only [Cha.what, whatK, toSendK, if_true] at hw
    split at hw
    · exact absurd hw (by simp)
    · rename_i hcl
      split at hw
      · exact absurd hw (by simp)
      · split at hw
        · exact absurd hw (by simp)
        · exact ⟨by simpa using hcl, fun _ => by simp only; omega, fun e => by cases e⟩
  | false =>
    simp only [Cha.what, whatK, toRecvK, Bool.false_eq_true, if_false] at hw
    split at hw
    · split at hw <;> exact absurd hw (by simp)
    · split at hw
      · exact absurd hw (by simp)
      · rename_i hb
        split at hw
        · exact absurd hw (by simp)
        · rename_i hcl
          exact ⟨by simpa using hcl, (fun e => by cases e), fun _ => by simpa using hb⟩
end
structure Inv (M : Mod) : Prop where
  chk : checkW M.p = none
  small : Small M.p
  fit : Fit M.p
  mo : M.most <= 32
  tl : M.T.length <= M.most
  cl : M.C.length = M.p.caps.length
  fr : ∀ x ∈ M.T, Rok x.f
  ch : ∀ c ∈ M.C, ChOk M.T.length c
  k : ∀ (i : Nat) c, M.C[i]? = some c -> c.cl = true -> 0 <= M.K i /\ M.K i < 32
section
variable {M : Mod} {t : Int}
theorem chOk_zero (n : Nat) : ChOk n Cha.zero := ⟨Nat.le_refl _, fun e => absurd rfl e, fun e => absurd rfl e, by simp [Cha.zero], by simp [Cha.zero], by simp [Cha.zero], List.Pairwise.nil, List.Pairwise.nil⟩
theorem Inv.chan (h : Inv M) (i : Int) : ChOk M.T.length (M.ch i) := by
  unfold Mod.ch
  cases hc : M.C[i.toNat]? with
  | none => exact chOk_zero _
  | some c => exact h.ch c (List.mem_of_getElem? hc)
theorem Inv.c6 (h : Inv M) : M.C.length <= 6 := by rw [h.cl]; exact caps_le h.chk
theorem Inv.t32 (h : Inv M) : M.T.length <= 32 := Nat.le_trans h.tl h.mo
theorem Inv.wl (h : Inv M) (i : Int) : (M.ch i).S.length <= 900 /\ (M.ch i).R.length <= 900 := by
  have hc := h.chan i
  have h1 := apart_len hc.su hc.sw
  have h2 := apart_len hc.ru hc.rw_
  have := h.t32
  omega
theorem Inv.tfr (h : Inv M) (i : Nat) : Rok (M.T[i]?.getD Pla.zero).f := by
  cases hx : M.T[i]? with
  | none => exact rok_zero
  | some x => exact h.fr x (List.mem_of_getElem? hx)
theorem Inv.sfr (h : Inv M) (t : Int) : Rok (M.stand t).1 := by
  unfold Mod.stand
  cases ht : M.task t with
  | none => exact rok_zero
  | some y =>
    simp only
    split
    · refine rok_runT h.fit (h.fr y ?_) _
      unfold Mod.task at ht
      split at ht
      · exact List.mem_of_getElem? ht
      · cases ht
    · exact rok_zero
theorem Inv.wfr (h : Inv M) (t : Int) : Rok (M.where_ t) := by
  unfold Mod.where_
  split
  · exact h.sfr t
  · exact h.tfr _
theorem Inv.stands (h : Inv M) (h0 : (M.stand t).2 = 0) : Stands M (M.stand t).1 (M.does t) := by
  obtain ⟨ha, h5, h10, _⟩ := does_at h.chk h0
  exact ⟨h5, h10, fun ho => tries_in h.chk h.cl (h.sfr t) ha ho, fun ho => by rw [h.cl]; exact at_ch h.chk ha (.inr (.inr ho))⟩
theorem Inv.sane (h : Inv M) : Sane M := ⟨h.chk, h.small, by have := h.t32; omega, h.c6, h.wl, fun _ h0 => h.stands h0⟩
theorem Inv.setC (h : Inv M) (c : Int) {f : Cha -> Cha} (hf : ∀ n d, ChOk n d -> ChOk n (f d)) (hcl : ∀ d, (f d).cl = d.cl) : Inv (M.setC c f) where
  chk := h.chk
  small := h.small
  fit := h.fit
  mo := h.mo
  tl := h.tl
  cl := by unfold Mod.setC; simp only [List.length_modify]; exact h.cl
  fr := h.fr
  ch := fun d hd => by
    obtain ⟨i, hi, rfl⟩ := List.mem_iff_getElem.1 hd
    have hi' : i < M.C.length := by simpa [Mod.setC] using hi
    have e : (M.setC c f).C[i] = if c.toNat = i then f M.C[i] else M.C[i] := by simp only [Mod.setC, List.getElem_modify]
    rw [e]
    split
    · exact hf _ _ (h.ch _ (List.getElem_mem hi'))
    · exact h.ch _ (List.getElem_mem hi')
  k := fun i d hd hc => by
    simp only [Mod.setC, List.getElem?_modify] at hd
    cases hx : M.C[i]? with
    | none => rw [hx] at hd; cases hd
    | some y =>
      rw [hx] at hd
      simp only [Option.map_some, Option.some.injEq, Option.map_eq_map] at hd
      refine h.k i y hx ?_
      subst hd
      split at hc
      · rw [hcl] at hc; exact hc
      · exact hc
theorem Inv.goOn (h : Inv M) {k v : Int} (hk : I64b k) (hv : I64b v) (ok : Bool) : Inv (M.goOn t k v ok) where
  chk := h.chk
  small := h.small
  fit := h.fit
  mo := h.mo
  tl := by unfold Mod.goOn; simp only [List.length_set]; exact h.tl
  cl := by unfold Mod.goOn; simp only [List.length_map]; exact h.cl
  fr := fun x hx => by
    unfold Mod.goOn at hx
    rcases List.mem_or_eq_of_mem_set hx with hx | rfl
    · exact h.fr x hx
    · exact rok_done (h.wfr t) hk hv ok
  ch := fun d hd => by
    unfold Mod.goOn at hd ⊢
    simp only [List.length_set]
    obtain ⟨c, hc, rfl⟩ := List.mem_map.1 hd
    exact (h.ch c hc).drop t
  k := fun i d hd hc => by
    unfold Mod.goOn at hd
    simp only [List.getElem?_map] at hd
    cases hx : M.C[i]? with
    | none => rw [hx] at hd; cases hd
    | some y =>
      rw [hx] at hd
      simp only [Option.map_some, Option.some.injEq] at hd
      refine h.k i y hx ?_
      subst hd
      exact hc
theorem Inv.setT (h : Inv M) (x : Pla) (hx : Rok x.f) : Inv (M.setT t x) :=
  ⟨h.chk, h.small, h.fit, h.mo, by unfold Mod.setT; simp only [List.length_set]; exact h.tl, h.cl, fun y hy => by
    rcases List.mem_or_eq_of_mem_set hy with hy | rfl
    · exact h.fr y hy
    · exact hx, fun d hd => by unfold Mod.setT; simp only [List.length_set]; exact h.ch d hd, h.k⟩
theorem Inv.blamed (h : Inv M) (t e : Int) : Inv { M with who := t, e := e } := ⟨h.chk, h.small, h.fit, h.mo, h.tl, h.cl, h.fr, h.ch, h.k⟩
theorem Inv.closed (h : Inv M) (c : Int) (ht : 0 <= t /\ t < 32) : Inv { M.setC c Cha.close with K := fun j => if j = c.toNat then t else M.K j } where
  chk := h.chk
  small := h.small
  fit := h.fit
  mo := h.mo
  tl := h.tl
  cl := by unfold Mod.setC; simp only [List.length_modify]; exact h.cl
  fr := h.fr
  ch := fun d hd => by
    obtain ⟨i, hi, rfl⟩ := List.mem_iff_getElem.1 hd
    have hi' : i < M.C.length := by simpa [Mod.setC] using hi
    have e : (M.setC c Cha.close).C[i] = if c.toNat = i then Cha.close M.C[i] else M.C[i] := by simp only [Mod.setC, List.getElem_modify]
    rw [e]
    split
    · exact (h.ch _ (List.getElem_mem hi')).close
    · exact h.ch _ (List.getElem_mem hi')
  k := fun i d hd hc => by
    simp only [Mod.setC, List.getElem?_modify] at hd
    simp only
    by_cases e : i = c.toNat
    · rw [if_pos e]; exact ht
    · rw [if_neg e]
      cases hx : M.C[i]? with
      | none => rw [hx] at hd; cases hd
      | some y =>
        rw [hx] at hd
        simp only [Option.map_some, Option.some.injEq, Option.map_eq_map] at hd
        rw [if_neg (fun e' => e e'.symm)] at hd
        subst hd
        exact h.k i y hx hc
theorem Inv.spawned (h : Inv M) (hm : M.T.length < M.most) (x : Pla) (hx : Rok x.f) : Inv { M with T := M.T ++ [x] } :=
  ⟨h.chk, h.small, h.fit, h.mo, by simp only [List.length_append, List.length_singleton]; omega, h.cl, fun y hy => by
    rcases List.mem_append.1 hy with hy | hy
    · exact h.fr y hy
    · rw [List.mem_singleton.1 hy]; exact hx, fun d hd => (h.ch d hd).more (by simp), h.k⟩
structure Waits (M N : Mod) : Prop where
  p : N.p = M.p
  most : N.most = M.most
  T : N.T = M.T
  K : N.K = M.K
  who : N.who = M.who
  e : N.e = M.e
  len : N.C.length = M.C.length
  ch : ∀ (i : Nat) d, N.C[i]? = some d -> ∃ c, M.C[i]? = some c /\ d.buf = c.buf /\ d.m = c.m /\ d.cl = c.cl /\ ChOk M.T.length d
theorem Inv.waits (h : Inv M) : Waits M M := ⟨rfl, rfl, rfl, rfl, rfl, rfl, rfl, fun _ d hd => ⟨d, hd, rfl, rfl, rfl, h.ch d (List.mem_of_getElem? hd)⟩⟩
theorem Waits.at {N : Mod} (hN : Waits M N) {o : Opn} (ht : 0 <= t /\ t < (M.T.length : Int)) (ho : OpOk M o) (hw : o.c = -1 \/ ((o.s = true -> (M.ch o.c).buf.length = (M.ch o.c).m) /\ (o.s = false -> (M.ch o.c).buf = []))) : Waits M (waitAt t N o) := by
  unfold waitAt
  split
  · exact hN
  · rename_i hc
    have hwc := hw.resolve_left hc
    have hcc := ho.c.resolve_left hc
    refine ⟨hN.p, hN.most, hN.T, hN.K, hN.who, hN.e, by unfold Mod.setC; simp only [List.length_modify]; exact hN.len, ?_⟩
    intro i d hd
    simp only [Mod.setC, List.getElem?_modify] at hd
    cases hx : N.C[i]? with
    | none => rw [hx] at hd; cases hd
    | some y =>
      rw [hx] at hd
      simp only [Option.map_some, Option.some.injEq, Option.map_eq_map] at hd
      obtain ⟨c, h1, h2, h3, h4, h5⟩ := hN.ch i y hx
      by_cases e : o.c.toNat = i
      · rw [if_pos e] at hd
        subst hd
        have hmc : M.ch o.c = c := by unfold Mod.ch; rw [e, h1]; rfl
        rw [hmc] at hwc
        refine ⟨c, h1, by rw [wait_buf]; exact h2, by rw [wait_m]; exact h3, by rw [wait_cl]; exact h4, h5.wait ⟨ht, ho.b, ho.v⟩ (fun e => ?_) (fun e => ?_)⟩
        · rw [h2, h3]; exact hwc.1 e
        · rw [h2]; exact hwc.2 e
      · rw [if_neg e] at hd
        subst hd
        exact ⟨c, h1, h2, h3, h4, h5⟩
theorem Waits.fold (ht : 0 <= t /\ t < (M.T.length : Int)) : ∀ (l : List Opn) (N : Mod), Waits M N -> (∀ o ∈ l, OpOk M o /\ (o.c = -1 \/ ((o.s = true -> (M.ch o.c).buf.length = (M.ch o.c).m) /\ (o.s = false -> (M.ch o.c).buf = [])))) -> Waits M (l.foldl (waitAt t) N)
  | [], _, h, _ => h
  | o :: l, _, h, hl => Waits.fold ht l _ (h.at ht (hl o (List.mem_cons_self ..)).1 (hl o (List.mem_cons_self ..)).2) (fun q hq => hl q (List.mem_cons_of_mem _ hq))
theorem Waits.inv (h : Inv M) {N : Mod} (hN : Waits M N) : Inv N where
  chk := by rw [hN.p]; exact h.chk
  small := by rw [hN.p]; exact h.small
  fit := by rw [hN.p]; exact h.fit
  mo := by rw [hN.most]; exact h.mo
  tl := by rw [hN.most, hN.T]; exact h.tl
  cl := by rw [hN.len, hN.p]; exact h.cl
  fr := by rw [hN.T]; exact h.fr
  ch := fun d hd => by
    obtain ⟨i, hi⟩ := List.mem_iff_getElem?.1 hd
    obtain ⟨c, _, _, _, _, h5⟩ := hN.ch i d hi
    rw [hN.T]; exact h5
  k := fun i d hd hc => by
    obtain ⟨c, h1, _, _, h4, _⟩ := hN.ch i d hd
    rw [hN.K]
    exact h.k i c h1 (by rw [<- h4]; exact hc)
end
end Go.Proofs.YtdijhgaaeifbfaaGreat.Mdl
