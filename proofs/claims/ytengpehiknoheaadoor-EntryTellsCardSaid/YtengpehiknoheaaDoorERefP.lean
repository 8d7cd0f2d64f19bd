/-
  The walk of the document's Put.
-/
import Derived.Test.YtengpehiknoheaaDoorERefM
import Derived.Test.YtengpehiknoheaaDoorERefB
namespace Go.Proofs.YtengpehiknoheaaDoor
open Go.RowKit Go.Shelf Oct

attribute [local go_sem] Oper.semAt_some

theorem ret_t {a b c d : Value} (h1 : a = b) (h2 : c = d) : Ending.returned (.tuple #[a, c]) = .returned (.tuple #[b, d]) := by rw [h1, h2]
set_option maxRecDepth 100000 in
set_option maxHeartbeats 6400000 in
theorem rputs_any (v : Value) (l : List En) (w : World) (hr : EnRow w v l) (hok : ∀ x ∈ l, x.ok) (hl : l.length ≤ 100) :
    Calls Tryd.prog 10 #[v] w fun e w' => e = .returned (.tuple #[.string ⟨(putS l).toArray⟩, .int .i64 (putE l)]) ∧ Below w.heap.size w w' := by
  obtain ⟨pa, pc, rfl⟩ := hr.slice
  go_enter Tryd.func10, Tryd.ntmps10
  go_wp2_with fail
  go_loopw [4, 5] (fun sv iv wr => ∃ (k : Nat) (T : List UInt8), k ≤ l.length ∧ iv = .int .i64 (k : Int) ∧ sv = .string ⟨T.toArray⟩ ∧ Below w.heap.size w wr ∧ T.length ≤ 100 * k ∧ Hid ((l.take k).all okB = true ∧ T = (l.take k).flatMap enL)) (fun _ iv _ => l.length - (intOf iv).toNat)
  case atStart => exact ⟨0, [], Nat.zero_le _, rfl, rfl, Below.refl _ _, Nat.zero_le _, Lib.hid (by simp)⟩
  case round =>
    obtain ⟨k, T, hk, rfl, rfl, hB, hT, HT⟩ := hrel
    by_cases hlt : k < l.length
    · have hlt' : (k : Int) < (l.length : Int) := by omega
      have k0 : (0 : Int) ≤ (k : Int) := by omega
      have hw1 : IntKind.i64.wrap ((k : Int) + 1) = (k : Int) + 1 := by rw [IntKind.wrap_i64]; omega
      obtain ⟨x, hx⟩ : ∃ x, l[k]? = some x := ⟨_, List.getElem?_eq_getElem hlt⟩
      have hxok := hok x (List.mem_of_getElem? hx)
      obtain ⟨b1, o1, rfl, _, x0, x1, x2, x3, x4, x5, x6, x7, x8, x9, x10, x11, x12⟩ := (hr.below hB).at hx
      have HX := Lib.hid hx
      have hmay : Calls Tryd.prog 14 #[.agg #[.int .i64 x.a, .int .u8 (x.k : Int), .int .i64 x.w, .int .i64 x.t, .int .i64 x.p, .int .i64 x.c, .int .i64 x.b, .int .i64 x.q, .int .i64 x.v, .int .i64 x.u, .bool x.o, .int .i64 x.e, .int .u64 (x.s : Int)]] wr fun e' W' => e' = .returned (.bool (okB x)) ∧ But [] wr W' := rmay_any x hxok wr
      have hby : okB x = true → ∀ W, Calls Tryd.prog 31 #[.agg #[.int .i64 x.a, .int .u8 (x.k : Int), .int .i64 x.w, .int .i64 x.t, .int .i64 x.p, .int .i64 x.c, .int .i64 x.b, .int .i64 x.q, .int .i64 x.v, .int .i64 x.u, .bool x.o, .int .i64 x.e, .int .u64 (x.s : Int)]] W fun e w' => e = .returned (.string ⟨(enL x).toArray⟩) ∧ Below W.heap.size W w' := fun h W => rbytes_any x hxok h W
      have hel : okB x = true → (enL x).length ≤ 100 := fun h => enL_len hxok h
      clear hx
      cases m : okB x with
      | false =>
        have HF : Hid (putS l = [] ∧ putE l = 2) := Lib.hid (by
          have : ¬ l.all okB = true := fun h => by
            have := List.all_eq_true.1 h x (List.mem_of_getElem? HX.out)
            rw [m] at this
            cases this
          unfold putS putE
          rw [if_neg this, if_neg this]
          exact ⟨rfl, rfl⟩)
        rw [m] at hmay
        clear hby hel m HT HX
        go_wp2_with fail
        refine hmay.mono ?_
        rintro e w2 ⟨rfl, hb2⟩
        have hB2 := below_nx hB (hb2.below (Nat.le_refl _) (by simp)) (Nat.le_refl _)
        go_wp2_with fail
        go_ret2
        exact ⟨ret_v (by rw [HF.out.1, HF.out.2]; rfl), hB2⟩
      | true =>
        rw [m] at hmay
        have hcl := hby m
        have hel2 := hel m
        obtain ⟨E, hE⟩ : ∃ E, E = enL x := ⟨_, rfl⟩
        rw [← hE] at hcl hel2
        have HT2 : Hid ((l.take (k + 1)).all okB = true ∧ T ++ E = (l.take (k + 1)).flatMap enL) := Lib.hid (by
          rw [take_snocE l HX.out, List.all_append, HT.out.1, List.flatMap_append, ← HT.out.2, hE]
          simp [m])
        have hfit : ¬ 9223372036854775807 < T.length + E.length := by omega
        have hTE : (T ++ E).length ≤ 100 * (k + 1) := by rw [List.length_append]; omega
        clear hby hel m HT hE
        go_wp2_with fail
        refine hmay.mono ?_
        rintro e w2 ⟨rfl, hb2⟩
        have hB2 := below_nx hB (hb2.below (Nat.le_refl _) (by simp)) (Nat.le_refl _)
        have hr2 := (hr.below hB2).at HX.out
        obtain ⟨b2, o2, heq, _, y0, y1, y2, y3, y4, y5, y6, y7, y8, y9, y10, y11, y12⟩ := hr2
        simp only [Option.some.injEq, Addr.mk.injEq, and_true] at heq
        obtain ⟨rfl, rfl⟩ := heq
        have hcl2 := hcl w2
        clear x0 x1 x2 x3 x4 x5 x6 x7 x8 x9 x10 x11 x12 hmay hb2 hcl
        go_wp2_with fail
        refine hcl2.mono ?_
        rintro e w3 ⟨rfl, hb3⟩
        have hB3 := below_nx hB2 hb3 (Nat.le_refl _)
        clear y0 y1 y2 y3 y4 y5 y6 y7 y8 y9 y10 y11 y12 hcl2 hb3
        go_wp2_with fail
        rw [str_appB]
        go_roundw
        case rel => exact ⟨k + 1, _, by omega, by go_num, rfl, hB3, hTE, HT2⟩
        case measure => simp [intOf]; omega
    have hlt' : ¬ (k : Int) < (l.length : Int) := by omega
    obtain rfl : k = l.length := by omega
    have HF : Hid (putS l = T ∧ putE l = 0) := Lib.hid (by
      have h1 := HT.out
      rw [List.take_length] at h1
      unfold putS putE
      rw [h1.1, h1.2]
      exact ⟨rfl, rfl⟩)
    clear HT
    go_wp2_with fail
    go_ret2
    exact ⟨ret_v (by rw [HF.out.1, HF.out.2]; rfl), hB⟩
end Go.Proofs.YtengpehiknoheaaDoor
