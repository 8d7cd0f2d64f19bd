/-
  The walk of slices.Backward's iterator.
-/
import Derived.Test.YtnngkpggejmdkaaLList
namespace Go.Proofs.Ytnngkpggejmdkaa
open Go.RowKit Go.Shelf

attribute [local go_sem] Oper.semAt_some

def backEnc (xs : List En) (p : Fin xs.length) : Array Value := #[.int .i64 (p.val : Int), (xs[p]).val]

set_option maxRecDepth 100000 in
set_option maxHeartbeats 1000000 in
theorem back1_in (n : Nat) (hn : 2 ≤ n) (l Bs b B : Nat) (v : Value) (xs : List En) (w0 : World) (J Jx : List (Fin xs.length) → World → Prop)
    (hY : ∀ pre (p : Fin xs.length) W, J pre W → pre.length < 1000 → YieldAt Fence.wide (n - 1) Try.prog l (backEnc xs p) W fun e W' =>
      (e = .returned (.bool true) ∧ J (pre ++ [p]) W' ∧ KeepT [] w0.heap.size W W') ∨ (e = .returned (.bool false) ∧ Jx (pre ++ [p]) W'))
    (W : World) (hBs : Boxed W Bs 22 v) (hBsl : Bs < w0.heap.size)
    (hL : LogAt W b B v xs) (hB : B < w0.heap.size) (hr : ∀ g, v.ownBlock = some g → g < w0.heap.size) (hl : xs.length ≤ 1000) (h0 : J [] W) :
    CallsIn Fence.wide n Try.prog 43 #[.func (.yield l) #[] #[], .pointer (some ⟨Bs, 0, none⟩)] W fun e W' => (∃ v, e = .returned v) ∧
      ((∃ ys, ys = backF xs ∧ J ys W') ∨ (∃ pre, pre <+: backF xs ∧ Jx pre W')) := by
  have hBc := hBs.cell
  obtain ⟨a, c, rfl⟩ := hL.entries.slice
  have hw : IntKind.i64.wrap ((xs.length : Int) - 1) = (xs.length : Int) - 1 := by rw [IntKind.wrap_i64]; omega
  refine callsIn_of_wp Try.func43 rfl trivial ?_ rfl
  simp only [Try.ntmps43, List.size_toArray, List.length_cons, List.length_nil, Nat.reduceAdd, Nat.reduceSub, Array.replicate_succ, Array.replicate_zero, List.push_toArray, List.append_toArray, List.nil_append, List.cons_append]
  gi_wp2
  gi_loopw [3] (fun iv wr => ∃ j : Nat, j ≤ xs.length ∧ iv = .int .i64 ((xs.length : Int) - 1 - (j : Int)) ∧ J ((backF xs).take j) wr ∧ LogAt wr b B (.slice a xs.length c) xs ∧ Boxed wr Bs 22 (.slice a xs.length c)) (fun iv _ => (intOf iv + 1).toNat)
  case atStart => exact ⟨0, Nat.zero_le _, by simp, h0, hL, hBs⟩
  case round =>
    clear hBc hL h0 hBs hw
    obtain ⟨j, hj, rfl, hJi, hL, hS⟩ := hrel
    by_cases hlt : j < xs.length
    · obtain ⟨m, hm⟩ : ∃ m : Nat, m = xs.length - 1 - j := ⟨_, rfl⟩
      have hmi : (xs.length : Int) - 1 - (j : Int) = (m : Int) := by omega
      have hml : (m : Int) < (xs.length : Int) := by omega
      have q0 : (0 : Int) ≤ (m : Int) := by omega
      have hw : IntKind.i64.wrap ((m : Int) - 1) = (m : Int) - 1 := by rw [IntKind.wrap_i64]; omega
      obtain ⟨x, hxj⟩ : ∃ x, xs[m]? = some x := ⟨_, List.getElem?_eq_getElem (by omega)⟩
      obtain ⟨bb, off, rfl, hbb, x0, x1, x2, x3, x4, x5, x6, x7, x8, x9, x10, x11, x12⟩ := hL.entries.at hxj
      obtain ⟨p, hp⟩ : ∃ p : Fin xs.length, p = ⟨xs.length - 1 - j, by omega⟩ := ⟨_, rfl⟩
      have hT : (backF xs).take (j + 1) = (backF xs).take j ++ [p] := by rw [hp]; exact backF_take hlt
      have hpv : p.val = m := by rw [hp]; exact hm.symm
      have hpx : xs[p] = x := by
        have : xs[p.val]? = some x := by rw [hpv]; exact hxj
        rw [List.getElem?_eq_getElem p.isLt] at this
        exact Option.some.inj this
      have HT := Lib.hid hT
      have hpl : ((backF xs).take j).length < 1000 := by
        rw [List.length_take, backF_len]; omega
      obtain ⟨fn, tmps, assign, body, hy, hR⟩ := hY _ p wr hJi hpl
      unfold backEnc at hy
      rw [hpx, hpv] at hy
      unfold En.val at hy
      have hsc := hS.cell
      rw [hmi]
      have HM := Lib.hid hmi
      clear hpl hT hxj hm hmi hpv hpx hp
      gi_wp2
      refine ⟨fun _ => by omega, hR.mono ?_⟩
      clear hy hR
      rintro e W3 (⟨rfl, hJ3, hK⟩ | ⟨rfl, hJx3⟩)
      · have hL3 := hL.held hK.1 hB hr
        have hS3 : Boxed W3 Bs 22 (.slice (some ⟨bb, off, none⟩) xs.length c) := (hK.1.block _ hBsl).trans hS
        clear x0 x1 x2 x3 x4 x5 x6 x7 x8 x9 x10 x11 x12 hsc hL hS
        gi_wp2
        go_roundw
        case rel => exact ⟨j + 1, by omega, by have := HM.out; congr 1; omega, by rw [HT.out]; exact hJ3, hL3, hS3⟩
        case measure => simp [intOf]
      · clear x0 x1 x2 x3 x4 x5 x6 x7 x8 x9 x10 x11 x12 hsc
        gi_wp2
        refine bodyPost_ret (results_none rfl _ _ _) rfl ?_
        exact ⟨⟨_, rfl⟩, .inr ⟨_, by rw [← HT.out]; exact List.take_prefix _ _, hJx3⟩⟩
    · obtain rfl : j = xs.length := by omega
      have he : (backF xs).take xs.length = backF xs := List.take_of_length_le (by rw [backF_len]; exact Nat.le_refl _)
      rw [he] at hJi
      have hz : (xs.length : Int) - 1 - (xs.length : Int) = -1 := by omega
      rw [hz]
      clear he hz
      gi_wp2
      go_end0
      exact ⟨⟨_, rfl⟩, .inl ⟨_, rfl, hJi⟩⟩
theorem back_stops {w w0 : World} {Bs b B : Nat} {v : Value} {xs : List En} (hBs : Boxed w0 Bs 22 v)
    (hL : LogAt w0 b B v xs) (hl : xs.length ≤ 1000) (hW : Below w0.heap.size w0 w) :
    SeqStopsK Fence.wide 3 Try.prog 43 #[.pointer (some ⟨Bs, 0, none⟩)] (backEnc xs) (KeepT [] w0.heap.size) (fun ys => ys = backF xs) (fun pre => pre <+: backF xs) 1000 w :=
  fun l J Jx W hW2 _ _ hY h0 => back1_in 3 (by omega) l Bs b B v xs w0 J Jx hY W ((But.of_below (below_nx hW hW2 (Nat.le_refl _)) []).boxed hBs (by simp)) hBs.lt
    ((hL.below hW).below hW2) hL.lt (fun g hg => (hL.rowB hg).1) hl h0
end Go.Proofs.Ytnngkpggejmdkaa
