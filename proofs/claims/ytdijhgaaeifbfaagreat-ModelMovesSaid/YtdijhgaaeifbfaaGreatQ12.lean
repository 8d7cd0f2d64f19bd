/-
  ModelMoves: its walks, part 12: ESmall ENamed.
-/
import Derived.RangeFuncNested
import Derived.RangeFuncBound
import Derived.RangeFuncCalls
import Derived.RangeFuncLeaves
import Derived.RangeFuncBox
import Derived.Shelf.Abstract
import Derived.Shelf.RegionOpen
import Derived.OwnWalkIn
import Derived.TacticsInMore
import Derived.LoopNIn
import Derived.LoopIn
import Derived.Maps.AppendAt
import Derived.WalkSmall
import Derived.Laws.EntriesVeiled
import Derived.Test.YtdijhgaaeifbfaaGreatQ00
import Derived.Test.YtdijhgaaeifbfaaGreatQ11
set_option maxRecDepth 100000
set_option maxHeartbeats 12800000
namespace Go.Proofs.YtdijhgaaeifbfaaGreat.Ent
open Go.RowKit SetM
theorem flag_any (b : Bool) (w : World) :
    Calls Tryz.prog 132 #[.bool b] w fun e w' => e = .returned (.int .i64 (flagI b)) /\ w' = w := by
  cases b <;> (go_enter Tryz.func132, Tryz.ntmps132; go_wp2_with fail; go_ret; exact ⟨rfl, rfl⟩)
theorem wrap_sgn {s : Nat} (h : s < 18446744073709551616) : IntKind.i64.wrap (s : Int) = sgn s := by
  rw [IntKind.wrap_i64]; unfold sgn; split <;> omega
theorem wrap_uns {v : Int} (h : I64b v) : IntKind.u64.wrap v = (uns v : Int) := by
  unfold I64b at h
  rw [IntKind.wrap_u64]; unfold uns; split <;> omega
theorem below1 (w : World) (o : Obj) : Below w.heap.size w (w.alloc o) := (Below.refl _ w).alloc (Nat.le_refl _) _
theorem below2 (w : World) (o1 o2 : Obj) : Below w.heap.size w ((w.alloc o1).alloc o2) := ((Below.refl _ w).alloc (Nat.le_refl _) _).alloc (by simp) _
theorem tell_any (x : En) (n : Nat) (hx : x.ok) (hn : n < 13) (w : World) :
    Calls Tryz.prog 105 #[x.val, .int .i64 (n : Int)] w fun e w' => e = .returned (.int .i64 (x.get n)) /\ Below w.heap.size w w' := by
  have hs := wrap_sgn hx.s
  have hb := below1 w
  obtain ⟨a, k, w0, t, p, c, b, q, v, u, o, e0, s⟩ := x
  have hf := flag_any o
  obtain ⟨z, hz⟩ : ∃ z, z = sgn s := ⟨_, rfl⟩
  simp only at hs
  rw [<- hz] at hs
  have HZ := Lib.hid hz
  clear hz hx
  unfold En.val
  rcases lt13 hn with rfl | rfl | rfl | rfl | rfl | rfl | rfl | rfl | rfl | rfl | rfl | rfl | rfl
  case' inr.inr.inr.inr.inr.inr.inr.inr.inr.inr.inl =>
    clear hn hs
    go_enter Tryz.func105, Tryz.ntmps105
    go_wp2_with fail
    refine (hf _).mono ?_
    rintro e w' ⟨rfl, rfl⟩
    go_wp2_with fail
    go_ret
    exact ⟨rfl, hb _⟩
  case' inr.inr.inr.inr.inr.inr.inr.inr.inr.inr.inr.inr =>
    clear hn hf
    go_enter Tryz.func105, Tryz.ntmps105
    go_wp2_with fail
    go_ret
    exact ⟨ret_v (by rw [HZ.out]; rfl), hb _⟩
  all_goals
    clear hn hf hs
    go_enter Tryz.func105, Tryz.ntmps105
    go_wp2_with fail
    go_ret
    exact ⟨rfl, hb _⟩
theorem with_any (x : En) (n : Nat) (v0 : Int) (hv : I64b v0) (hn : n < 13) (w : World) :
    Calls Tryz.prog 107 #[x.val, .int .i64 (n : Int), .int .i64 v0] w fun e w' => e = .returned (x.put n v0).val /\ Below w.heap.size w w' := by
  have hs := wrap_uns hv
  have hb := below2 w
  obtain ⟨a, k, w0, t, p, c, b, q, v, u, o, e0, s⟩ := x
  obtain ⟨z, hz⟩ : ∃ z, z = uns v0 := ⟨_, rfl⟩
  rw [<- hz] at hs
  have HZ := Lib.hid hz
  clear hz hv
  unfold En.val
  rcases lt13 hn with rfl | rfl | rfl | rfl | rfl | rfl | rfl | rfl | rfl | rfl | rfl | rfl | rfl
  · clear hn hs
    go_enter Tryz.func107, Tryz.ntmps107
    go_wp2_with fail
    exact bodyPost_ret (v := .agg #[.int .i64 a, .int .u8 (k : Int), .int .i64 v0, .int .i64 t, .int .i64 p, .int .i64 c, .int .i64 b, .int .i64 q, .int .i64 v, .int .i64 u, .bool o, .int .i64 e0, .int .u64 (s : Int)]) (by simp [results, Tryz.f107, go_sem]) rfl ⟨rfl, hb _ _⟩
  · clear hn hs
    go_enter Tryz.func107, Tryz.ntmps107
    go_wp2_with fail
    exact bodyPost_ret (v := .agg #[.int .i64 a, .int .u8 (k : Int), .int .i64 w0, .int .i64 v0, .int .i64 p, .int .i64 c, .int .i64 b, .int .i64 q, .int .i64 v, .int .i64 u, .bool o, .int .i64 e0, .int .u64 (s : Int)]) (by simp [results, Tryz.f107, go_sem]) rfl ⟨rfl, hb _ _⟩
  · clear hn hs
    go_enter Tryz.func107, Tryz.ntmps107
    go_wp2_with fail
    exact bodyPost_ret (v := .agg #[.int .i64 a, .int .u8 (k : Int), .int .i64 w0, .int .i64 t, .int .i64 v0, .int .i64 c, .int .i64 b, .int .i64 q, .int .i64 v, .int .i64 u, .bool o, .int .i64 e0, .int .u64 (s : Int)]) (by simp [results, Tryz.f107, go_sem]) rfl ⟨rfl, hb _ _⟩
  · clear hn hs
    go_enter Tryz.func107, Tryz.ntmps107
    go_wp2_with fail
    exact bodyPost_ret (v := .agg #[.int .i64 a, .int .u8 (k : Int), .int .i64 w0, .int .i64 t, .int .i64 v0, .int .i64 c, .int .i64 b, .int .i64 q, .int .i64 v, .int .i64 u, .bool o, .int .i64 e0, .int .u64 (s : Int)]) (by simp [results, Tryz.f107, go_sem]) rfl ⟨rfl, hb _ _⟩
  · clear hn hs
    go_enter Tryz.func107, Tryz.ntmps107
    go_wp2_with fail
    exact bodyPost_ret (v := .agg #[.int .i64 a, .int .u8 (k : Int), .int .i64 w0, .int .i64 t, .int .i64 p, .int .i64 v0, .int .i64 b, .int .i64 q, .int .i64 v, .int .i64 u, .bool o, .int .i64 e0, .int .u64 (s : Int)]) (by simp [results, Tryz.f107, go_sem]) rfl ⟨rfl, hb _ _⟩
  · clear hn hs
    go_enter Tryz.func107, Tryz.ntmps107
    go_wp2_with fail
    exact bodyPost_ret (v := .agg #[.int .i64 a, .int .u8 (k : Int), .int .i64 w0, .int .i64 t, .int .i64 p, .int .i64 c, .int .i64 v0, .int .i64 q, .int .i64 v, .int .i64 u, .bool o, .int .i64 e0, .int .u64 (s : Int)]) (by simp [results, Tryz.f107, go_sem]) rfl ⟨rfl, hb _ _⟩
  · clear hn hs
    go_enter Tryz.func107, Tryz.ntmps107
    go_wp2_with fail
    exact bodyPost_ret (v := .agg #[.int .i64 a, .int .u8 (k : Int), .int .i64 w0, .int .i64 t, .int .i64 p, .int .i64 c, .int .i64 v0, .int .i64 q, .int .i64 v, .int .i64 u, .bool o, .int .i64 e0, .int .u64 (s : Int)]) (by simp [results, Tryz.f107, go_sem]) rfl ⟨rfl, hb _ _⟩
  · clear hn hs
    go_enter Tryz.func107, Tryz.ntmps107
    go_wp2_with fail
    exact bodyPost_ret (v := .agg #[.int .i64 a, .int .u8 (k : Int), .int .i64 w0, .int .i64 t, .int .i64 p, .int .i64 c, .int .i64 b, .int .i64 v0, .int .i64 v, .int .i64 u, .bool o, .int .i64 e0, .int .u64 (s : Int)]) (by simp [results, Tryz.f107, go_sem]) rfl ⟨rfl, hb _ _⟩
  · clear hn hs
    go_enter Tryz.func107, Tryz.ntmps107
    go_wp2_with fail
    exact bodyPost_ret (v := .agg #[.int .i64 a, .int .u8 (k : Int), .int .i64 w0, .int .i64 t, .int .i64 p, .int .i64 c, .int .i64 b, .int .i64 q, .int .i64 v0, .int .i64 u, .bool o, .int .i64 e0, .int .u64 (s : Int)]) (by simp [results, Tryz.f107, go_sem]) rfl ⟨rfl, hb _ _⟩
  · clear hn hs
    go_enter Tryz.func107, Tryz.ntmps107
    go_wp2_with fail
    exact bodyPost_ret (v := .agg #[.int .i64 a, .int .u8 (k : Int), .int .i64 w0, .int .i64 t, .int .i64 p, .int .i64 c, .int .i64 b, .int .i64 q, .int .i64 v, .int .i64 v0, .bool o, .int .i64 e0, .int .u64 (s : Int)]) (by simp [results, Tryz.f107, go_sem]) rfl ⟨rfl, hb _ _⟩
  · clear hn hs
    go_enter Tryz.func107, Tryz.ntmps107
    go_wp2_with fail
    exact bodyPost_ret (v := .agg #[.int .i64 a, .int .u8 (k : Int), .int .i64 w0, .int .i64 t, .int .i64 p, .int .i64 c, .int .i64 b, .int .i64 q, .int .i64 v, .int .i64 u, .bool (v0 != 0), .int .i64 e0, .int .u64 (s : Int)]) (by simp [results, Tryz.f107, go_sem]) rfl ⟨rfl, hb _ _⟩
  · clear hn hs
    go_enter Tryz.func107, Tryz.ntmps107
    go_wp2_with fail
    exact bodyPost_ret (v := .agg #[.int .i64 a, .int .u8 (k : Int), .int .i64 w0, .int .i64 t, .int .i64 p, .int .i64 c, .int .i64 b, .int .i64 q, .int .i64 v, .int .i64 u, .bool o, .int .i64 v0, .int .u64 (s : Int)]) (by simp [results, Tryz.f107, go_sem]) rfl ⟨rfl, hb _ _⟩
  · clear hn
    go_enter Tryz.func107, Tryz.ntmps107
    go_wp2_with fail
    exact bodyPost_ret (v := .agg #[.int .i64 a, .int .u8 (k : Int), .int .i64 w0, .int .i64 t, .int .i64 p, .int .i64 c, .int .i64 b, .int .i64 q, .int .i64 v, .int .i64 u, .bool o, .int .i64 e0, .int .u64 (z : Int)]) (by simp [results, Tryz.f107, go_sem]) rfl ⟨ret_v (by rw [HZ.out]; rfl), hb _ _⟩
def faultB (v : Int) : Bool := v == 140 || (v == 141 || (v == 142 || v == 143))
theorem isFault_any (v : Int) (w : World) :
    Calls Tryz.prog 134 #[.int .i64 v] w fun e w' => e = .returned (.bool (faultB v)) /\ w' = w := by
  go_enter Tryz.func134, Tryz.ntmps134
  by_cases h : v = 140 \/ v = 141 \/ v = 142 \/ v = 143
  · have HE : Hid (faultB v = true) := Lib.hid (by rcases h with rfl | rfl | rfl | rfl <;> rfl)
    rcases h with rfl | rfl | rfl | rfl <;> (go_wp2_with fail; go_ret; exact ⟨rfl, rfl⟩)
  · have e0 : (v == 140) = false := by rw [beq_eq_false_iff_ne]; omega
    have e1 : (v == 141) = false := by rw [beq_eq_false_iff_ne]; omega
    have e2 : (v == 142) = false := by rw [beq_eq_false_iff_ne]; omega
    have e3 : (v == 143) = false := by rw [beq_eq_false_iff_ne]; omega
    have HE : Hid (faultB v = false) := Lib.hid (by unfold faultB; rw [e0, e1, e2, e3]; rfl)
    clear h
    go_wp2_with fail
    go_ret
    exact ⟨ret_v (by rw [HE.out]; rfl), rfl⟩
theorem within_any (l m v : Int) (B : Nat) (w : World) (h : w.cell? ⟨B, 0, none⟩ = some (.int .i64 v)) :
    Calls Tryz.prog 133 #[.int .i64 l, .int .i64 m, .pointer (some ⟨B, 0, none⟩)] w fun e w' => e = .returned (.bool (decide (l <= v) && decide (v < m))) /\ w' = w := by
  go_enter Tryz.func133, Tryz.ntmps133
  by_cases h0 : l <= v
  · have HE : Hid ((decide (l <= v) && decide (v < m)) = decide (v < m)) := Lib.hid (by simp [h0])
    rw [HE.out]
    go_wp2_with fail
    go_ret
    exact ⟨rfl, rfl⟩
  · have HE : Hid ((decide (l <= v) && decide (v < m)) = false) := Lib.hid (by simp [h0])
    rw [HE.out]
    go_wp2_with fail
    go_ret
    exact ⟨rfl, rfl⟩
theorem may_any (n : Nat) (v : Int) (hn : n < 13) (w : World) :
    Calls Tryz.prog 106 #[.int .i64 (n : Int), .int .i64 v] w fun e w' => e = .returned (.bool (mayN n v)) /\ Below w.heap.size w w' := by
  have hb := below1 w
  have hc : (w.alloc (.cells #[.int .i64 v] 2)).cell? ⟨w.heap.size, 0, none⟩ = some (.int .i64 v) := Boxed.cell (Boxed.new w _ _)
  have hin := fun l m => within_any l m v w.heap.size _ hc
  have hf := fun W => isFault_any v W
  rcases lt13 hn with rfl | rfl | rfl | rfl | rfl | rfl | rfl | rfl | rfl | rfl | rfl | rfl | rfl
  case' inr.inr.inr.inr.inr.inr.inr.inr.inl => skip
  all_goals
    clear hn
    go_enter Tryz.func106, Tryz.ntmps106
    go_wp2_with fail
    first
      | (refine (hin _ _).mono ?_
         rintro e w' ⟨rfl, rfl⟩
         go_wp2_with fail
         go_ret
         exact ⟨rfl, hb _⟩)
      | (refine (hf _).mono ?_
         rintro e w' ⟨rfl, rfl⟩
         go_wp2_with fail
         go_ret
         exact ⟨rfl, hb _⟩)
      | (go_ret
         exact ⟨rfl, hb _⟩)
open Go.RowKit Go.Shelf SetM
attribute [local go_sem] Oper.semAt_some
def nsTo : Nat -> Nat -> List (Fin 13)
  | 0, _ => []
  | n + 1, m => nsTo n m ++ (if m.testBit n = true then [Fin.ofNat 13 n] else [])
theorem nsTo_hit {n m : Nat} (h : m.testBit n = true) : nsTo (n + 1) m = nsTo n m ++ [Fin.ofNat 13 n] := by rw [nsTo, if_pos h]
theorem nsTo_miss {n m : Nat} (h : m.testBit n = false) : nsTo (n + 1) m = nsTo n m := by rw [nsTo, if_neg (by rw [h]; decide)]; simp
theorem nsTo_len (n m : Nat) : (nsTo n m).length <= n := by
  induction n with
  | zero => simp [nsTo]
  | succ n ih => rw [nsTo]; split <;> simp <;> omega
theorem nsTo_prefix (m i j : Nat) : nsTo i m <+: nsTo (i + j) m := by
  induction j with
  | zero => exact List.prefix_refl _
  | succ j ih => exact ih.trans ⟨_, rfl⟩
theorem val_of13 {n : Nat} (h : n < 13) : (Fin.ofNat 13 n).val = n := Nat.mod_eq_of_lt h
def nsOf (k : Nat) : List (Fin 13) := nsTo 13 (maskN k)
theorem nsOf_map (k : Nat) : (nsOf k).map (·.val) = namesOf k := by
  cases h : known k with
  | false => unfold nsOf; rw [namesOf_out h, maskN_out h]; decide
  | true => rcases known_cases h with rfl | rfl | rfl | rfl | rfl | rfl | rfl | rfl | rfl | rfl | rfl | rfl | rfl | rfl | rfl | rfl | rfl <;> decide
def KdAt (W : World) (B : Nat) (wd : ByteArray) (m : Nat) : Prop := Two W B 146 (.string wd) (.int .u64 (m : Int))
def KeepK (n : Nat) (W W' : World) : Prop := W'.heap[n]? = W.heap[n]?
section
variable {W W' : World} {n : Nat} {wd : ByteArray} {m : Nat}
theorem KdAt.keep (h : KdAt W n wd m) (k : KeepK n W W') : KdAt W' n wd m := Two.of_block h k
theorem KeepK.trans {A B C : World} (h : KeepK n A B) (k : KeepK n B C) : KeepK n A C := Eq.trans k h
theorem KdAt.lt (h : KdAt W n wd m) : n < W.heap.size := Two.lt h
theorem KdAt.but (h : KdAt W n wd m) {S : List Nat} (hb : But S W W') (hn : n ∉ S) : KdAt W' n wd m := Two.of_block h (hb.block n (Two.lt h) hn)
theorem KdAt.keeps (h : KdAt W n wd m) {S : List Nat} (hb : But S W W') (hn : n ∉ S) : KeepK n W W' := hb.block n (Two.lt h) hn
theorem keepK_putObj (W : World) (l : Nat) (o o' : Obj) (hn : n < l) (h : W.heap[l]? = some o) (_ : o.isCells = false) : KeepK n W (W.putObj l o') :=
  (grownBy_putObj' W l o').block n (by have := (Array.getElem?_eq_some_iff.1 h).1; omega) (fun e => by have := Option.some.inj e; omega)
end
theorem named_any (wd : ByteArray) (m : Nat) (w : World) :
    Calls Tryz.prog 104 #[.agg #[.string wd, .int .u64 (m : Int)]] w fun e w' => e = .returned (.func (.func 130) #[] #[.pointer (some ⟨w.heap.size, 0, none⟩)]) /\ w' = w.alloc (.cells #[.string wd, .int .u64 (m : Int)] 146) := by
  go_enter Tryz.func104, Tryz.ntmps104
  go_wp2_with fail
  go_ret
  exact ⟨rfl, rfl⟩
theorem has_bit {m i : Nat} (hi : i < 13) : has m (i : Int) = m.testBit i := by
  unfold has
  rw [decide_eq_true (by omega), Bool.true_and, Int.toNat_natCast]
theorem named1_in (n : Nat) (hn : 2 <= n) (l n0 : Nat) (wd : ByteArray) (m : Nat) (hm : m < 18446744073709551616) (J Jx : List (Fin 13) -> World -> Prop)
    (hY : ∀ pre (p : Fin 13) W, J pre W -> pre.length < 13 -> YieldAt Fence.wide (n - 1) Tryz.prog l #[.int .i64 (p.val : Int)] W fun e W' =>
      (e = .returned (.bool true) /\ J (pre ++ [p]) W' /\ KeepK n0 W W') \/ (e = .returned (.bool false) /\ Jx (pre ++ [p]) W'))
    (W : World) (hN : KdAt W n0 wd m) (h0 : J [] W) :
    CallsIn Fence.wide n Tryz.prog 130 #[.func (.yield l) #[] #[], .pointer (some ⟨n0, 0, none⟩)] W fun e W' => (∃ v, e = .returned v) /\
      ((∃ ys, ys = nsTo 13 m /\ J ys W') \/ (∃ pre, pre <+: nsTo 13 m /\ Jx pre W')) := by
  refine callsIn_of_wp Tryz.func130 rfl trivial ?_ rfl
  simp only [Tryz.ntmps130, List.size_toArray, List.length_cons, List.length_nil, Nat.reduceAdd, Nat.reduceSub, Array.replicate_succ, Array.replicate_zero, List.push_toArray, List.append_toArray, List.nil_append, List.cons_append]
  gi_wp2
  gi_loopw [4] (fun iv wr => ∃ i : Nat, i <= 13 /\ iv = .int .i64 i /\ J (nsTo i m) wr /\ KdAt wr n0 wd m) (fun iv _ => 13 - (intOf iv).toNat)
  case atStart => exact ⟨0, Nat.zero_le _, rfl, h0, hN⟩
  case round =>
    clear hN h0
    obtain ⟨i, hi, rfl, hJi, hN⟩ := hrel
    by_cases hlt : i < 13
    · have hlt' : (i : Int) < 13 := by omega
      have i0 : (0 : Int) <= (i : Int) := by omega
      have c1 := Two.c1 hN
      have hcall := has_any m (i : Int) hm (by omega) (by omega) wr
      rw [has_bit hlt] at hcall
      have hval : ((Fin.ofNat 13 i).val : Int) = (i : Int) := by rw [val_of13 hlt]
      obtain ⟨fn, tmps, assign, body, hy, hR⟩ := hY (nsTo i m) (Fin.ofNat 13 i) wr hJi (by have := nsTo_len i m; omega)
      rw [hval] at hy
      cases hb : m.testBit i with
      | true =>
        have HT := Lib.hid (nsTo_hit hb)
        have HP : Hid (nsTo i m ++ [Fin.ofNat 13 i] <+: nsTo 13 m) := Lib.hid (by
          have h2 := nsTo_prefix m (i + 1) (12 - i)
          rw [show i + 1 + (12 - i) = 13 by omega, HT.out] at h2
          exact h2)
        rw [hb] at hcall
        clear hb
        gi_wp2_with (first | (refine ⟨trivial, fun _ => by omega, ?_⟩; gi_at_call 131; refine (callsIn_wide.2 hcall).mono ?_; rintro e w' ⟨rfl, rfl⟩))
        refine ⟨fun _ => by omega, hR.mono ?_⟩
        clear hcall hy hR
        rintro e W3 (⟨rfl, hJ3, hK⟩ | ⟨rfl, hJx3⟩)
        · have hN3 := hN.keep hK
          clear hN hK
          gi_wp2
          go_roundw
          case rel => exact ⟨i + 1, by omega, by go_num, by rw [HT.out]; exact hJ3, hN3⟩
          case measure => simp [intOf]; omega
        · gi_wp2
          refine bodyPost_ret (results_none rfl _ _ _) rfl ?_
          exact ⟨⟨_, rfl⟩, .inr ⟨_, HP.out, hJx3⟩⟩
      | false =>
        have HT := Lib.hid (nsTo_miss hb)
        rw [hb] at hcall
        clear hb hy hR
        gi_wp2_with (first | (refine ⟨trivial, fun _ => by omega, ?_⟩; gi_at_call 131; refine (callsIn_wide.2 hcall).mono ?_; rintro e w' ⟨rfl, rfl⟩))
        refine ⟨fun _ h => (by cases h), ?_⟩
        gi_wp2
        go_roundw
        case rel => exact ⟨i + 1, by omega, by go_num, by rw [HT.out]; exact hJi, hN⟩
        case measure => simp [intOf]; omega
    · obtain rfl : i = 13 := by omega
      gi_wp2
      go_end0
      exact ⟨⟨_, rfl⟩, .inl ⟨_, rfl, hJi⟩⟩
theorem iter_named {w : World} {n0 : Nat} {wd : ByteArray} {m : Nat} (hm : m < 18446744073709551616) (hN : KdAt w n0 wd m) :
    SeqStopsK Fence.wide 3 Tryz.prog 130 #[.pointer (some ⟨n0, 0, none⟩)] (fun p : Fin 13 => #[Value.int .i64 (p.val : Int)]) (KeepK n0) (fun xs => xs = nsTo 13 m) (fun pre => pre <+: nsTo 13 m) 13 w :=
  fun l J Jx W hW _ _ hY h0 => named1_in 3 (by omega) l n0 wd m hm J Jx hY W (hN.but (But.of_below hW []) (by simp)) h0
end Go.Proofs.YtdijhgaaeifbfaaGreat.Ent
