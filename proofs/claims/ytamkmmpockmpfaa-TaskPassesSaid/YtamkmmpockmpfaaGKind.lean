/-
  The walks of below, with, teller, named; the iterator that goes over what an instruction names.
-/
import Derived.RangeFuncNested
import Derived.RangeFuncBound
import Derived.RangeFuncCalls
import Derived.RangeFuncLeaves
import Derived.RangeFuncBox
import Derived.Shelf.Abstract
import Derived.Shelf.RegionOpen
import Derived.OwnWalkIn
import Derived.TacticsInMore
import Derived.LoopNIn
import Derived.LoopIn
import Derived.Maps.AppendAt
import Derived.WalkSmall
import Derived.Laws.EntriesVeiled
import Derived.Test.YtamkmmpockmpfaaGMap
namespace Go.Proofs.Ytamkmmpockmpfaa
open Go.RowKit Go.Shelf

attribute [local go_sem] Oper.semAt_some

def In.cells (x : In) : Array Value := #[.int .u8 (x.o : Int), .int .i64 x.a, .int .i64 x.b, .int .i64 x.c, .int .i64 x.k]
def In.val (x : In) : Value := .agg #[.int .u8 (x.o : Int), .int .i64 x.a, .int .i64 x.b, .int .i64 x.c, .int .i64 x.k]
/-- Block B is the instruction x. -/
def InAt (W : World) (B : Nat) (x : In) : Prop := W.heap[B]? = some (.cells #[.int .u8 (x.o : Int), .int .i64 x.a, .int .i64 x.b, .int .i64 x.c, .int .i64 x.k] 77 (0, 0))
section
variable {W W' : World} {B : Nat} {x : In}
theorem InAt.lt (h : InAt W B x) : B < W.heap.size := (Array.getElem?_eq_some_iff.1 h).1
theorem InAt.of_block (h : InAt W B x) (hb : W'.heap[B]? = W.heap[B]?) : InAt W' B x := hb.trans h
theorem InAt.c0 (h : InAt W B x) : W.cell? ⟨B, 0, none⟩ = some (.int .u8 (x.o : Int)) := by simp [World.cell?, show W.heap[B]? = _ from h]
theorem InAt.c1 (h : InAt W B x) : W.cell? ⟨B, 1, none⟩ = some (.int .i64 x.a) := by simp [World.cell?, show W.heap[B]? = _ from h]
theorem InAt.c2 (h : InAt W B x) : W.cell? ⟨B, 2, none⟩ = some (.int .i64 x.b) := by simp [World.cell?, show W.heap[B]? = _ from h]
theorem InAt.c3 (h : InAt W B x) : W.cell? ⟨B, 3, none⟩ = some (.int .i64 x.c) := by simp [World.cell?, show W.heap[B]? = _ from h]
theorem InAt.c4 (h : InAt W B x) : W.cell? ⟨B, 4, none⟩ = some (.int .i64 x.k) := by simp [World.cell?, show W.heap[B]? = _ from h]
theorem InAt.frozen (h : InAt W B x) (k : Nat) : W.frozen? ⟨B, k, none⟩ = false := by simp [World.frozen?, show W.heap[B]? = _ from h]
theorem inAt_new (W : World) (x : In) : InAt (W.alloc (.cells #[.int .u8 (x.o : Int), .int .i64 x.a, .int .i64 x.b, .int .i64 x.c, .int .i64 x.k] 77)) W.heap.size x := World.alloc_heap_new W _
theorem InAt.alloc (h : InAt W B x) (o : Obj) : InAt (W.alloc o) B x := h.of_block ((World.grownBy_alloc W o none).block B h.lt (by simp))
end

def belowB (v n : Int) : Bool := decide (0 ≤ v) && decide (v < n)
theorem below_any (v n : Int) (w : World) :
    Calls Try.prog 56 #[.int .i64 v, .int .i64 n] w fun e w' => e = .returned (.bool (belowB v n)) ∧ w' = w := by
  go_enter Try.func56, Try.ntmps56
  by_cases h0 : 0 ≤ v
  · have HE : Hid (decide (v < n) = belowB v n) := Lib.hid (by simp [belowB, h0])
    go_wp2_with fail
    go_ret
    exact ⟨ret_v (by rw [← HE.out]; rfl), rfl⟩
  · have HE : Hid (belowB v n = false) := Lib.hid (by simp [belowB, h0])
    have h1 : v < 0 := by omega
    go_wp2_with fail
    go_ret
    exact ⟨ret_v (by rw [HE.out]; rfl), rfl⟩

theorem below2 (w : World) (o1 o2 : Obj) : Below w.heap.size w ((w.alloc o1).alloc o2) := ((Below.refl _ w).alloc (Nat.le_refl _) _).alloc (by simp) _
set_option maxHeartbeats 400000 in
theorem with_any (x : In) (n : Nat) (v : Int) (w : World) :
    Calls Try.prog 60 #[x.val, .int .u8 (n : Int), .int .i64 v] w fun e w' => e = .returned (x.put n v).val ∧ Below w.heap.size w w' := by
  obtain ⟨o, a, b, c, k⟩ := x
  unfold In.val
  have hb := below2 w
  go_enter Try.func60, Try.ntmps60
  rcases (by omega : n = 0 ∨ n = 1 ∨ n = 2 ∨ 3 ≤ n) with rfl | rfl | rfl | h3
  · go_wp2_with fail
    exact bodyPost_ret (v := .agg #[.int .u8 (o : Int), .int .i64 v, .int .i64 b, .int .i64 c, .int .i64 k]) (by simp [results, Try.f60, go_sem]) rfl ⟨rfl, hb _ _⟩
  · go_wp2_with fail
    exact bodyPost_ret (v := .agg #[.int .u8 (o : Int), .int .i64 a, .int .i64 v, .int .i64 c, .int .i64 k]) (by simp [results, Try.f60, go_sem]) rfl ⟨rfl, hb _ _⟩
  · go_wp2_with fail
    exact bodyPost_ret (v := .agg #[.int .u8 (o : Int), .int .i64 a, .int .i64 b, .int .i64 v, .int .i64 k]) (by simp [results, Try.f60, go_sem]) rfl ⟨rfl, hb _ _⟩
  · have e0 : ((n : Int) == 0) = false := by rw [beq_eq_false_iff_ne]; omega
    have e1 : ((n : Int) == 1) = false := by rw [beq_eq_false_iff_ne]; omega
    have e2 : ((n : Int) == 2) = false := by rw [beq_eq_false_iff_ne]; omega
    have HE : Hid ((In.put ⟨o, a, b, c, k⟩ n v) = ⟨o, a, b, c, v⟩) := Lib.hid (by
      unfold In.put
      split <;> first | omega | rfl)
    clear h3
    go_wp2_with fail
    exact bodyPost_ret (v := .agg #[.int .u8 (o : Int), .int .i64 a, .int .i64 b, .int .i64 c, .int .i64 v]) (by simp [results, Try.f60, go_sem]) rfl ⟨ret_v (by rw [HE.out]), hb _ _⟩

theorem teller_any (x : In) (w : World) :
    Calls Try.prog 61 #[x.val] w fun e w' => e = .returned (.func (.func 63) #[] #[.pointer (some ⟨w.heap.size, 0, none⟩)]) ∧ w' = w.alloc (.cells #[.int .u8 (x.o : Int), .int .i64 x.a, .int .i64 x.b, .int .i64 x.c, .int .i64 x.k] 77) := by
  unfold In.val
  go_enter Try.func61, Try.ntmps61
  go_wp2_with fail
  go_ret
  exact ⟨rfl, rfl⟩
theorem tell_any {B : Nat} {x : In} (n : Nat) (w : World) (h : InAt w B x) :
    Calls Try.prog 63 #[.int .u8 (n : Int), .pointer (some ⟨B, 0, none⟩)] w fun e w' => e = .returned (.int .i64 (x.get n)) ∧ w' = w := by
  have c1 := h.c1
  have c2 := h.c2
  have c3 := h.c3
  have c4 := h.c4
  go_enter Try.func63, Try.ntmps63
  rcases (by omega : n = 0 ∨ n = 1 ∨ n = 2 ∨ 3 ≤ n) with rfl | rfl | rfl | h3
  · go_wp2_with fail
    go_ret
    exact ⟨rfl, rfl⟩
  · go_wp2_with fail
    go_ret
    exact ⟨rfl, rfl⟩
  · go_wp2_with fail
    go_ret
    exact ⟨rfl, rfl⟩
  · have e0 : ((n : Int) == 0) = false := by rw [beq_eq_false_iff_ne]; omega
    have e1 : ((n : Int) == 1) = false := by rw [beq_eq_false_iff_ne]; omega
    have e2 : ((n : Int) == 2) = false := by rw [beq_eq_false_iff_ne]; omega
    have HE : Hid (x.get n = x.k) := Lib.hid (by
      unfold In.get
      split <;> first | omega | rfl)
    clear h3
    go_wp2_with fail
    go_ret
    exact ⟨ret_v (by rw [HE.out]; rfl), rfl⟩

/-! ### What named lays -/
/-- From block n on: the kind, (the instruction,) the instruction, and what tells its fields. -/
structure Nmd (W : World) (n : Nat) (wd : ByteArray) (sl : Value) (x : In) : Prop where
  kind : W.heap[n]? = some (.cells #[.string wd, sl] 117 (0, 0))
  ins : InAt W (n + 2) x
  tell : Boxed W (n + 3) 125 (.func (.func 63) #[] #[.pointer (some ⟨n + 2, 0, none⟩)])
  row : RowN W sl (namesOf x.o)
/-- What a round keeps: those blocks, and each row of names. -/
structure KeepK (n : Nat) (W W' : World) : Prop where
  kind : W'.heap[n]? = W.heap[n]?
  ins : W'.heap[n + 2]? = W.heap[n + 2]?
  tell : W'.heap[n + 3]? = W.heap[n + 3]?
  rows : ∀ (k : Nat) (cs : Array Value) (z : Nat × Nat), W.heap[k]? = some (.cells cs 112 z) → W'.heap[k]? = W.heap[k]?
section
variable {W W' : World} {n : Nat} {wd : ByteArray} {sl : Value} {x : In}
theorem Nmd.keep (h : Nmd W n wd sl x) (k : KeepK n W W') : Nmd W' n wd sl x :=
  ⟨k.kind.trans h.kind, h.ins.of_block k.ins, k.tell.trans h.tell, h.row.same k.rows⟩
theorem KeepK.refl (n : Nat) (W : World) : KeepK n W W := ⟨rfl, rfl, rfl, fun _ _ _ _ => rfl⟩
theorem KeepK.trans {A B C : World} (h : KeepK n A B) (k : KeepK n B C) : KeepK n A C :=
  ⟨k.kind.trans h.kind, k.ins.trans h.ins, k.tell.trans h.tell, fun i cs z hi => (k.rows i cs z ((h.rows i cs z hi).trans hi)).trans (h.rows i cs z hi)⟩
theorem Nmd.lt (h : Nmd W n wd sl x) : n + 3 < W.heap.size := h.tell.lt
/-- What turns no block of these is kept. -/
theorem Nmd.keeps (h : Nmd W n wd sl x) {S : List Nat} (hb : But S W W') (h0 : n ∉ S) (h2 : n + 2 ∉ S) (h3 : n + 3 ∉ S) (hr : ∀ k ∈ S, ∀ cs z, W.heap[k]? ≠ some (.cells cs 112 z)) : KeepK n W W' := by
  have hl := h.lt
  exact ⟨hb.block _ (by omega) h0, hb.block _ (by omega) h2, hb.block _ (by omega) h3, fun k cs z hk => hb.block k (Array.getElem?_eq_some_iff.1 hk).1 (fun hm => hr k hm cs z hk)⟩
theorem Nmd.but (h : Nmd W n wd sl x) {S : List Nat} (hb : But S W W') (h0 : n ∉ S) (h2 : n + 2 ∉ S) (h3 : n + 3 ∉ S) (hr : ∀ k ∈ S, ∀ cs z, W.heap[k]? ≠ some (.cells cs 112 z)) : Nmd W' n wd sl x := h.keep (h.keeps hb h0 h2 h3 hr)
theorem Nmd.fresh (h : Nmd W n wd sl x) (hb : But [] W W') : Nmd W' n wd sl x := h.but hb (by simp) (by simp) (by simp) (by simp)
theorem keepK_putObj {m : Nat} (W : World) (l : Nat) (o o' : Obj) (hn : n + 3 < m) (hl : m ≤ l) (h : W.heap[l]? = some o) (ho : o.isCells = false) : KeepK n W (W.putObj l o') := by
  have hg := grownBy_putObj' W l o'
  have key : ∀ k, k < W.heap.size → k ≠ l → (W.putObj l o').heap[k]? = W.heap[k]? := fun k hk hne => hg.block k hk (fun e => hne (Option.some.inj e))
  have hlt := (Array.getElem?_eq_some_iff.1 h).1
  exact ⟨key _ (by omega) (by omega), key _ (by omega) (by omega), key _ (by omega) (by omega), fun k cs z hk => key k (Array.getElem?_eq_some_iff.1 hk).1 (fun e => by subst e; rw [hk] at h; cases h; cases ho)⟩
theorem nmd_abides {β : Type} (n : Nat) (wd : ByteArray) (sl : Value) (x : In) (m : Nat) : OwnFrom m (fun (_ : β) W => Nmd W n wd sl x) :=
  Own.from (fun _ A W' row hs hg hr => by
    have hk : ∀ k, k < A.heap.size → (∃ cs t z, A.heap[k]? = some (.cells cs t z)) → W'.heap[k]? = A.heap[k]? := fun k hk ⟨cs, t, z, hc⟩ => hg.block k hk (fun e => by
      obtain ⟨o, ho, hn⟩ := hr k e.symm
      rw [hc] at ho
      cases ho
      cases hn)
    have hl := hs.lt
    exact hs.keep ⟨hk _ (by omega) ⟨_, _, _, hs.kind⟩, hk _ (by omega) ⟨_, _, _, hs.ins⟩, hk _ (by omega) ⟨_, _, _, hs.tell⟩, fun k cs z h => hk k (Array.getElem?_eq_some_iff.1 h).1 ⟨_, _, _, h⟩⟩) m
end

set_option maxHeartbeats 400000 in
/-- named: what it lays, and what it answers. -/
theorem named_any (wd : ByteArray) (a : Option Addr) (len cap : Nat) (x : In) (w : World) (h : RowN w (.slice a len cap) (namesOf x.o)) :
    Calls Try.prog 58 #[.agg #[.string wd, .slice a len cap], x.val] w fun e w' => e = .returned (.func (.func 62) #[] #[.pointer (some ⟨w.heap.size, 0, none⟩), .pointer (some ⟨w.heap.size + 3, 0, none⟩)]) ∧
      Nmd w' w.heap.size wd (.slice a len cap) x ∧ w'.heap.size = w.heap.size + 4 ∧ But [] w w' := by
  have h1 := teller_any x
  unfold In.val at h1 ⊢
  go_enter Try.func58, Try.ntmps58
  go_wp2_with fail
  refine (h1 _).mono ?_
  rintro e w' ⟨rfl, rfl⟩
  go_wp2_with fail
  go_ret
  simp only [World.size_alloc]
  have b0 := World.alloc_heap_new w (.cells #[.string wd, .slice a len cap] 117)
  obtain ⟨w1, hw1⟩ : ∃ w1, w1 = w.alloc (.cells #[.string wd, .slice a len cap] 117) := ⟨_, rfl⟩
  have s1 : w1.heap.size = w.heap.size + 1 := by rw [hw1]; simp
  have t1 : But [] w w1 := by rw [hw1]; exact (But.refl [] w).alloc _
  rw [← hw1] at b0 ⊢
  obtain ⟨w2, hw2⟩ : ∃ w2, w2 = w1.alloc (.cells #[.int .u8 (x.o : Int), .int .i64 x.a, .int .i64 x.b, .int .i64 x.c, .int .i64 x.k] 77) := ⟨_, rfl⟩
  have s2 : w2.heap.size = w.heap.size + 2 := by rw [hw2]; simp [s1]
  have t2 : But [] w1 w2 := by rw [hw2]; exact (But.refl [] w1).alloc _
  rw [← hw2]
  have b2 := inAt_new w2 x
  obtain ⟨w3, hw3⟩ : ∃ w3, w3 = w2.alloc (.cells #[.int .u8 (x.o : Int), .int .i64 x.a, .int .i64 x.b, .int .i64 x.c, .int .i64 x.k] 77) := ⟨_, rfl⟩
  have s3 : w3.heap.size = w.heap.size + 3 := by rw [hw3]; simp [s2]
  have t3 : But [] w2 w3 := by rw [hw3]; exact (But.refl [] w2).alloc _
  rw [← hw3] at b2 ⊢
  rw [s2] at b2
  have b3 := Boxed.new w3 125 (.func (.func 63) #[] #[.pointer (some ⟨w.heap.size + 2, 0, none⟩)])
  rw [s3] at b3
  have t4 : ∀ o, But [] w3 (w3.alloc o) := fun o => (But.refl [] w3).alloc o
  have t13 := (t1.next t2).next t3
  refine ⟨rfl, ⟨?_, ?_, b3, ?_⟩, by simp, t13.next (t4 _)⟩
  · exact ((((t2.next t3).next (t4 _)).block _ (by omega) (by simp)).trans b0)
  · exact b2.of_block ((t4 _).block _ (by omega) (by simp))
  · exact h.fresh (t13.next (t4 _))

/-! ### The iterator -/
abbrev Nv := { p : Nat × Int // p.1 < 7 ∧ I64b p.2 }
def nvs (x : In) (hx : x.ok) : List Nv := (pairs x).pmap (fun p h => ⟨p, h⟩) (fun _ hp => pairs_ok hx hp)
theorem nvs_map (x : In) (hx : x.ok) : (nvs x hx).map (·.1) = pairs x := by simp [nvs, List.map_pmap]
theorem nvs_len (x : In) (hx : x.ok) : (nvs x hx).length = (namesOf x.o).length := by simp [nvs, pairs]
theorem nvs_get (x : In) (hx : x.ok) {i : Nat} (hi : i < (namesOf x.o).length) : ∃ p : Nv, (nvs x hx)[i]? = some p ∧ (namesOf x.o)[i]? = some p.1.1 ∧ p.1.2 = x.get p.1.1 := by
  have hl := nvs_len x hx
  obtain ⟨p, hp⟩ : ∃ p, (nvs x hx)[i]? = some p := ⟨_, List.getElem?_eq_getElem (by omega)⟩
  have hm : (pairs x)[i]? = some p.1 := by rw [← nvs_map x hx, List.getElem?_map, hp]; rfl
  rw [pairs, List.getElem?_map, List.getElem?_eq_getElem hi] at hm
  simp only [Option.map_some, Option.some.injEq] at hm
  refine ⟨p, hp, ?_, ?_⟩
  · rw [List.getElem?_eq_getElem hi, ← hm]
  · rw [← hm]
theorem take_snocN (ys : List Nv) {i : Nat} {p : Nv} (h : ys[i]? = some p) : ys.take (i + 1) = ys.take i ++ [p] := by
  rw [List.take_add_one, h]; rfl

set_option maxRecDepth 100000 in
set_option maxHeartbeats 1000000 in
theorem named1_in (n : Nat) (hn : 2 ≤ n) (l n0 : Nat) (wd : ByteArray) (sl : Value) (x : In) (hx : x.ok) (J Jx : List Nv → World → Prop)
    (hY : ∀ pre (p : Nv) W, J pre W → pre.length < 3 → YieldAt Fence.wide (n - 1) Try.prog l #[.int .u8 (p.1.1 : Int), .int .i64 p.1.2] W fun e W' =>
      (e = .returned (.bool true) ∧ J (pre ++ [p]) W' ∧ KeepK n0 W W') ∨ (e = .returned (.bool false) ∧ Jx (pre ++ [p]) W'))
    (W : World) (hN : Nmd W n0 wd sl x) (h0 : J [] W) :
    CallsIn Fence.wide n Try.prog 62 #[.func (.yield l) #[] #[], .pointer (some ⟨n0, 0, none⟩), .pointer (some ⟨n0 + 3, 0, none⟩)] W fun e W' => (∃ v, e = .returned v) ∧
      ((∃ ys, ys = nvs x hx ∧ J ys W') ∨ (∃ pre, pre <+: nvs x hx ∧ Jx pre W')) := by
  obtain ⟨m, hm⟩ : ∃ m, m = (namesOf x.o).length := ⟨_, rfl⟩
  have hm3 : m ≤ 3 := by rw [hm]; exact namesOf_len _
  have HM := Lib.hid hm
  obtain ⟨ys, hys⟩ : ∃ ys, ys = nvs x hx := ⟨_, rfl⟩
  have HY := Lib.hid hys
  rw [← hys]
  have hcA : W.cell? ⟨n0, 1, none⟩ = some sl := by simp [World.cell?, hN.kind]
  have hsl : ∃ a c, sl = .slice a m c := by
    rcases hN.row with ⟨e, rfl⟩ | ⟨b, rfl, _⟩
    · exact ⟨none, 0, by rw [hm, e]; rfl⟩
    · exact ⟨_, _, by rw [hm]⟩
  clear hm hys
  obtain ⟨a, c, rfl⟩ := hsl
  refine callsIn_of_wp Try.func62 rfl trivial ?_ rfl
  simp only [Try.ntmps62, List.size_toArray, List.length_cons, List.length_nil, Nat.reduceAdd, Nat.reduceSub, Array.replicate_succ, Array.replicate_zero, List.push_toArray, List.append_toArray, List.nil_append, List.cons_append]
  gi_wp2
  gi_loopw [9] (fun iv wr => ∃ i : Nat, i ≤ m ∧ iv = .int .i64 i ∧ J (ys.take i) wr ∧ Nmd wr n0 wd (.slice a m c) x) (fun iv _ => m - (intOf iv).toNat)
  case atStart => exact ⟨0, Nat.zero_le _, rfl, h0, hN⟩
  case round =>
    clear hcA hN h0
    obtain ⟨i, hi, rfl, hJi, hN⟩ := hrel
    by_cases hlt : i < m
    · have hlt' : (i : Int) < (m : Int) := by omega
      have i0 : (0 : Int) ≤ (i : Int) := by omega
      have hct := hN.tell.cell
      obtain ⟨p, hp1, hp2, hp3⟩ := nvs_get x hx (i := i) (by rw [← HM.out]; exact hlt)
      have HT : Hid (ys.take (i + 1) = ys.take i ++ [p]) := Lib.hid (by rw [HY.out]; exact take_snocN _ hp1)
      have hrow : ∃ b, a = some ⟨b, 0, none⟩ ∧ wr.cell? ⟨b, i, none⟩ = some (.int .u8 (p.1.1 : Int)) := by
        rcases hN.row with ⟨e, _⟩ | ⟨b, e, _, hb⟩
        · have := HM.out; rw [e] at this; simp at this; omega
        · simp only [Value.slice.injEq] at e
          refine ⟨b, e.1, ?_⟩
          simp only [World.cell?, hb]
          simp [hp2, nameV]
      obtain ⟨b, rfl, hcell⟩ := hrow
      have hcall := tell_any p.1.1 wr hN.ins
      rw [← hp3] at hcall
      have hpl : (ys.take i).length < 3 := by simp; omega
      obtain ⟨fn, tmps, assign, body, hy, hR⟩ := hY (ys.take i) p wr hJi hpl
      clear hp1 hp2 hp3
      gi_wp2_with (first | (refine ⟨trivial, fun _ => by omega, ?_⟩; gi_at_call 63; refine (callsIn_wide.2 hcall).mono ?_; rintro e w' ⟨rfl, rfl⟩))
      refine ⟨fun _ => by omega, hR.mono ?_⟩
      clear hcall hy hR
      rintro e W3 (⟨rfl, hJ3, hK⟩ | ⟨rfl, hJx3⟩)
      · have hN3 := hN.keep hK
        clear hN hK
        gi_wp2
        go_roundw
        case rel => exact ⟨i + 1, by omega, by go_num, by rw [HT.out]; exact hJ3, hN3⟩
        case measure => simp [intOf]; omega
      · gi_wp2
        refine bodyPost_ret (results_none rfl _ _ _) rfl ?_
        exact ⟨⟨_, rfl⟩, .inr ⟨_, by rw [← HT.out]; exact List.take_prefix _ _, hJx3⟩⟩
    · obtain rfl : i = m := by omega
      have hlt' : ¬ ((i : Int) < (i : Int)) := by omega
      rw [List.take_of_length_le (by rw [HY.out, nvs_len, ← HM.out]; exact Nat.le_refl _)] at hJi
      gi_wp2
      go_end0
      exact ⟨⟨_, rfl⟩, .inl (by first | exact hJi | exact ⟨_, rfl, hJi⟩)⟩

/-- The iterator over what x names, from the blocks at n0 on. -/
theorem iter_named {w : World} {n0 : Nat} {wd : ByteArray} {sl : Value} {x : In} (hx : x.ok) (hN : Nmd w n0 wd sl x) :
    SeqStopsK Fence.wide 3 Try.prog 62 #[.pointer (some ⟨n0, 0, none⟩), .pointer (some ⟨n0 + 3, 0, none⟩)] (fun p : Nv => #[Value.int .u8 (p.1.1 : Int), Value.int .i64 p.1.2]) (KeepK n0) (fun xs => xs = nvs x hx) (fun pre => pre <+: nvs x hx) 3 w :=
  fun l J Jx W hW _ _ hY h0 => named1_in 3 (by omega) l n0 wd sl x hx J Jx hY W (hN.fresh (But.of_below hW [])) h0
end Go.Proofs.Ytamkmmpockmpfaa
