/-
  A row of bytes of the call's own, whatever its mark; append onto it; the library's AppendInt at base 10 onto it.
-/
import Derived.Deep.AppendSrc
import Derived.Lib.ItoaWalk
import Derived.Lib.ItoaMem
import Derived.Lib.AppendIntMem
import Derived.Lib.Slices
import Derived.Deep.Cut
import Derived.Test.YtengpehiknoheaaDoorECheck
namespace Go.Proofs.YtengpehiknoheaaDoor
open Go.RowKit

theorem infoU8 : (Tryd.prog.info? 5).map (fun i => (i.zero, i.size, i.bytes)) = some (some (.int .u8 0), 1, 1) := by kernel_rfl

/-- What may have been turned: rows of bytes from block base on, and new blocks. -/
structure Bys (base : Nat) (W W' : World) : Prop where
  os : W'.os = W.os
  tape : W'.tape = W.tape
  output : W'.output = W.output
  size : W.heap.size ≤ W'.heap.size
  keep : ∀ k, k < W.heap.size → (k < base ∨ ∀ cs z, W.heap[k]? ≠ some (.cells cs 5 z)) → W'.heap[k]? = W.heap[k]?
theorem Bys.refl (base : Nat) (W : World) : Bys base W W := ⟨rfl, rfl, rfl, Nat.le_refl _, fun _ _ _ => rfl⟩
theorem Bys.trans {base : Nat} {A B C : World} (h : Bys base A B) (k : Bys base B C) : Bys base A C :=
  ⟨k.os.trans h.os, k.tape.trans h.tape, k.output.trans h.output, Nat.le_trans h.size k.size, fun i hi hk =>
    (k.keep i (Nat.lt_of_lt_of_le hi h.size) (hk.imp id (fun hn cs z e => hn cs z ((h.keep i hi hk).symm.trans e)))).trans (h.keep i hi hk)⟩
theorem Bys.of_but {base : Nat} {W W' : World} (h : But [] W W') : Bys base W W' := ⟨h.os, h.tape, h.output, h.size, fun k hk _ => h.block k hk (by simp)⟩
theorem Bys.of_row {base g : Nat} {W W' : World} {cs : Array Value} {z : Nat × Nat} (h : But [g] W W') (hg : base ≤ g) (hc : W.heap[g]? = some (.cells cs 5 z)) : Bys base W W' :=
  ⟨h.os, h.tape, h.output, h.size, fun k hk hn => h.block k hk (fun hm => by
    obtain rfl := List.mem_singleton.1 hm
    rcases hn with h1 | h1
    · omega
    · exact h1 cs z hc)⟩
theorem Bys.below {base : Nat} {W W' : World} (h : Bys base W W') (hb : base ≤ W.heap.size) : Below base W W' := ⟨h.os, h.tape, h.output, h.size, fun k hk => h.keep k (by omega) (.inl hk)⟩
theorem Bys.same {base : Nat} {W W' : World} (h : Bys base W W') {k : Nat} {cs : Array Value} {t : TypeId} {z : Nat × Nat} (hk : W.heap[k]? = some (.cells cs t z)) (ht : t ≠ 5) : W'.heap[k]? = W.heap[k]? :=
  h.keep k (Array.getElem?_eq_some_iff.1 hk).1 (.inr fun cs' z' e => by rw [hk] at e; simp only [Option.some.injEq, Obj.cells.injEq] at e; exact ht e.2.1)

/-- The slice value v is a row of the bytes l in a block from base on. -/
def BRow (W : World) (base : Nat) (v : Value) (l : List UInt8) : Prop :=
  ∃ g cap cur f f', v = .slice (some ⟨g, 0, none⟩) l.length cap ∧ base ≤ g ∧ W.heap[g]? = some (.cells cur 5 (f, f')) ∧ (cap ≤ f ∨ f' = 0) ∧ l.length ≤ cap ∧ cap ≤ cur.size ∧
    ∀ (j : Nat) (u : Value), (Lib.byteCells l)[j]? = some u → cur[j]? = some u
section
variable {W W' : World} {base : Nat} {v : Value} {l m : List UInt8}
theorem BRow.slice (h : BRow W base v l) : ∃ a c, v = .slice a l.length c := by
  obtain ⟨g, cap, cur, f, f', rfl, _⟩ := h
  exact ⟨_, _, rfl⟩
theorem BRow.keep (h : BRow W base v l) (hk : ∀ (k : Nat) (cs : Array Value) (z : Nat × Nat), W.heap[k]? = some (.cells cs 5 z) → W'.heap[k]? = W.heap[k]?) : BRow W' base v l := by
  obtain ⟨g, cap, cur, f, f', h1, h2, h3, r⟩ := h
  exact ⟨g, cap, cur, f, f', h1, h2, (hk _ _ _ h3).trans h3, r⟩
theorem BRow.fresh (h : BRow W base v l) (hb : But [] W W') : BRow W' base v l := h.keep fun k cs z hk => hb.block k (Array.getElem?_eq_some_iff.1 hk).1 (by simp)
theorem BRow.cells (h : BRow W base v l) : ∃ g cap, v = .slice (some ⟨g, 0, none⟩) l.length cap ∧ ∀ j u, (Lib.byteCells l)[j]? = some u → W.cell? ⟨g, j, none⟩ = some u := by
  obtain ⟨g, cap, cur, f, f', rfl, h2, h3, h4, h5, h6, h7⟩ := h
  exact ⟨g, cap, rfl, fun j u hj => by simp only [World.cell?, h3]; exact h7 j u hj⟩
end
theorem bc_len (l : List UInt8) : (Lib.byteCells l).length = l.length := by simp [Lib.byteCells]
theorem bc_app (l m : List UInt8) : Lib.byteCells (l ++ m) = Lib.byteCells l ++ Lib.byteCells m := by simp [Lib.byteCells]
theorem bc_one (l : List UInt8) : ∀ u ∈ Lib.byteCells l, u.oneCell' = true := by
  intro u hu
  obtain ⟨b, _, rfl⟩ := List.mem_map.1 hu
  rfl
theorem setCells_at (g : Nat) (t : TypeId) (z : Nat × Nat) : ∀ (vs : List Value) (o : Nat) (W : World) (cur : Array Value), W.heap[g]? = some (.cells cur t z) → ∃ cur', (W.setCells g o vs).heap[g]? = some (.cells cur' t z) ∧ cur'.size = cur.size ∧
    (∀ j, j < o → cur'[j]? = cur[j]?) ∧ (∀ j u, vs[j]? = some u → o + j < cur.size → cur'[o + j]? = some u)
  | [], _, _, cur, h => ⟨cur, h, rfl, fun _ _ => rfl, fun _ _ hj => by simp at hj⟩
  | x :: r, o, W, cur, h => by
    obtain ⟨cur', h1, h2, h3, h4⟩ := setCells_at g t z r (o + 1) (W.setCell ⟨g, o, none⟩ x) _ (heap_set_same x h)
    rw [Array.size_setIfInBounds] at h2
    refine ⟨cur', h1, h2, fun j hj => ?_, fun j u hj hlt => ?_⟩
    · rw [h3 j (by omega), Array.getElem?_setIfInBounds_ne (by omega)]
    · cases j with
      | zero =>
        simp only [List.getElem?_cons_zero, Option.some.injEq] at hj
        subst hj
        rw [Nat.add_zero] at hlt ⊢
        rw [h3 o (by omega), Array.getElem?_setIfInBounds_self_of_lt hlt]
      | succ j =>
        rw [show o + (j + 1) = o + 1 + j by omega]
        exact h4 j u (by simpa using hj) (by rw [Array.size_setIfInBounds]; omega)
theorem but_setCells (g : Nat) : ∀ (vs : List Value) (o : Nat) (W : World), But [g] W (W.setCells g o vs)
  | [], _, W => But.refl _ W
  | x :: r, o, W => ((But.refl [g] W).set (p := ⟨g, o, none⟩) (.inl (by simp)) x).next (but_setCells g r (o + 1) (W.setCell ⟨g, o, none⟩ x))

/-- append, onto a row of bytes. -/
theorem bapp {W : World} {base : Nat} {v : Value} {l : List UInt8} (h : BRow W base v l) (hb : base ≤ W.heap.size) (tx : TypeId) (x : Value) (m : List UInt8) (hs : Src Tryd.prog 1 tx x m.length (Lib.byteCells m) W) (hl : l.length + m.length ≤ 100000) :
    ∃ v' W', (∀ ty, (Builtin.append_ #[49, tx] ty #[v, x]).run Tryd.prog W = .ok v' W') ∧ BRow W' base v' (l ++ m) ∧ Bys base W W' := by
  obtain ⟨i, hi, hz, hsz, hby⟩ := info_parts infoU8
  obtain ⟨g, cap, cur, f, f', rfl, h2, h3, h4, h5, h6, h7⟩ := h
  have hs' : Src Tryd.prog i.size tx x m.length (Lib.byteCells m) W := by rw [hsz]; exact hs
  by_cases hr : l.length + m.length ≤ cap
  · have hcell : ∀ j, j < (Lib.byteCells m).length → (W.cell? ⟨g, 0 + l.length * i.size + j, none⟩).isSome = true := fun j hj => by
      rw [bc_len] at hj
      have : 0 + l.length * i.size + j < cur.size := by rw [hsz]; omega
      simp only [World.cell?, h3]
      rw [Array.getElem?_eq_getElem this]
      rfl
    have hfr : ∀ j, j < (Lib.byteCells m).length → W.frozen? ⟨g, 0 + l.length * i.size + j, none⟩ = false := fun j hj => by
      rw [bc_len] at hj
      simp only [World.frozen?, h3, hsz]
      rcases h4 with h4 | h4
      · simp; omega
      · simp [h4]
    obtain ⟨cur', k1, k2, k3, k4⟩ := setCells_at g 5 (f, f') (Lib.byteCells m) (0 + l.length * i.size) W cur h3
    refine ⟨_, _, fun ty => run_append_room_src W 49 tx ty 5 i Tryd.underlying49 hi g 0 l.length cap x m.length _ hs' hr hcell hfr, ?_, Bys.of_row (but_setCells g _ _ W) h2 h3⟩
    refine ⟨g, cap, cur', f, f', by rw [List.length_append], h2, k1, h4, by rw [List.length_append]; exact hr, by omega, fun j u hj => ?_⟩
    rw [bc_app] at hj
    rcases Nat.lt_or_ge j l.length with hlt | hge
    · rw [List.getElem?_append_left (by rw [bc_len]; exact hlt)] at hj
      rw [k3 j (by rw [hsz]; omega)]
      exact h7 j u hj
    · rw [List.getElem?_append_right (by rw [bc_len]; exact hge), bc_len] at hj
      have hjm : j - l.length < m.length := by have := (List.getElem?_eq_some_iff.1 hj).1; rwa [bc_len] at this
      have := k4 (j - l.length) u hj (by rw [hsz]; omega)
      rwa [show 0 + l.length * i.size + (j - l.length) = j by rw [hsz]; omega] at this
  · have hold : (Builtin.firstCells i.size l.length (.slice (some ⟨g, 0, none⟩) l.length cap)).run Tryd.prog W.drew = .ok (Lib.byteCells l).toArray W.drew :=
      run_firstCells_some W.drew i.size l.length ⟨g, 0, none⟩ l.length cap _ (by rw [bc_len, hsz, Nat.mul_one]) (fun j u hj => by
        rw [show (⟨g, 0, none⟩ : Addr).add j = ⟨g, 0 + j, none⟩ from Lib.add_plain g 0 j, Nat.zero_add]
        show W.cell? _ = _
        simp only [World.cell?, h3]
        exact h7 j u hj)
    have hge := grownCap_ge W (l.length + m.length) cap 5
    refine ⟨_, _, fun ty => run_append_grow_src W 49 tx ty 5 i (.int .u8 0) Tryd.underlying49 hi hz (some ⟨g, 0, none⟩) l.length cap _ hold x m.length _ hs' (by omega) (by omega) (growslice_fits (by omega) (by rw [hby]; omega)), ?_, Bys.of_but ((But.refl [] W).drew.alloc _)⟩
    refine ⟨W.heap.size, _, _, 0, 0, by rw [List.length_append], hb, World.alloc_heap_new W.drew _, .inr rfl, by rw [List.length_append]; exact hge, ?_, fun j u hj => ?_⟩
    · simp only [Array.size_append, List.size_toArray, size_zeroCells, List.length_append, bc_len]
      have : (Value.int IntKind.u8 0).cells.size = 1 := rfl
      rw [this]
      omega
    · rw [← bc_app, Array.getElem?_append_left (by simpa using (List.getElem?_eq_some_iff.1 hj).1)]
      simpa using hj

section
variable {P : Program} (w : World) {ops : Array Oper} {rest : List Oper} {o : Oper} {a : Act} {Q : Exit → Act → World → Prop}
/-- append, at the operation, by its run. -/
theorem wpList_app (hg : o.guard = none) (s x : Operand) (t tx : TypeId) (hop : o.op = Op.call { callee := Callee.builtin Builtin.append, args := #[s, x], argTypes := #[t, tx] }) (v y v' : Value) (w' : World) (hs : a.eval s = v) (hx : a.eval x = y)
    (hrun : ∀ ty, (Builtin.append_ #[t, tx] ty #[v, y]).run P w = .ok v' w') (hK : wpList P ops Q rest (a.put o.dst v') w') :
    wpList P ops Q (o :: rest) a w := by
  refine wpList_plain hg fun K' hK' => ?_
  unfold Oper.wp
  simp [execOp, hop, resolve, invoke, builtin, hs, hx, hrun o.type, Result.andThen]
  exact hK' _ _ hK
end
theorem of_owns8 {W : World} {base n : Nat} {v : Value} {l : List UInt8} (h : W.ownsRow base 5 1 v n (Lib.byteCells l)) (h0 : l ≠ []) : BRow W base v l := by
  have hn : n = l.length := by have := h.1; rw [bc_len] at this; omega
  subst hn
  rcases h.2 with ⟨_, hz⟩ | ⟨g, cap, cur, h1, h2, h3, h4, h5, h6, h7⟩
  · exact absurd (List.length_eq_zero_iff.1 hz) h0
  · refine ⟨g, cap, cur, 0, 0, h1, h2, h3, .inr rfl, h4, by omega, fun j u hj => ?_⟩
    have hjl : j < l.length := by have := (List.getElem?_eq_some_iff.1 hj).1; rwa [bc_len] at this
    rw [← h7, List.getElem?_take_of_lt (by omega), Array.getElem?_toList] at hj
    exact hj

/-! ### AppendUint, AppendInt -/
theorem digits_len {u : Nat} (h : u < 18446744073709551616) : (Lib.decDigits u).length ≤ 21 := by
  have := Lib.itoa_length_le (u : Int)
  by_cases h2 : (u : Int) ≤ 9223372036854775807
  · have := this (by omega) h2
    rwa [Lib.itoa_nonneg] at this
  · rw [Lib.decDigits_length]
    have h3 := Lib.numDigits_eq u (by omega) h
    split at h3 <;> omega

set_option maxRecDepth 100000 in
set_option maxHeartbeats 1600000 in
theorem uint_small {base u : Nat} {v : Value} {l : List UInt8} (hu : u < 100) (w : World) (h : BRow w base v l) (hb : base ≤ w.heap.size) (hl : l.length ≤ 1000) :
    Calls Tryd.prog 44 #[v, .int .u64 (u : Int), .int .i64 10] w fun e w' => ∃ v', e = .returned v' ∧ BRow w' base v' (l ++ Lib.decDigits u) ∧ Bys base w w' := by
  have hsm : Calls Tryd.prog 62 #[.int .i64 (u : Int)] w fun e w' => e = .returned (.string ⟨(Lib.decDigits u).toArray⟩) ∧ w' = w := Any.internal_strconv_small { Tryd.laysM176 with } u hu w
  have hd := digits_len (u := u) (by omega)
  obtain ⟨v', w', hrun, hrow, hby⟩ := bapp h hb 9 (.string ⟨(Lib.decDigits u).toArray⟩) (Lib.decDigits u) (Src.ofString w Tryd.underlying9 ⟨(Lib.decDigits u).toArray⟩) (by omega)
  obtain ⟨a, c, rfl⟩ := h.slice
  obtain ⟨s, hs⟩ : ∃ s : ByteArray, s = ⟨(Lib.decDigits u).toArray⟩ := ⟨_, rfl⟩
  rw [← hs] at hsm hrun
  clear hs
  have q1 : (u : Int) < 100 := by omega
  have q2 : IntKind.i64.wrap (u : Int) = (u : Int) := by rw [IntKind.wrap_i64]; omega
  go_enter Tryd.func44, Tryd.ntmps44
  go_wp2_with fail
  refine hsm.mono ?_
  rintro e w1 ⟨rfl, rfl⟩
  go_wp2_with (at_builtin; refine wpList_app _ rfl _ _ _ _ rfl _ _ v' w' rfl rfl hrun ?_; go_frame)
  go_wp2_with fail
  go_ret
  exact ⟨_, rfl, hrow, hby⟩

set_option maxRecDepth 100000 in
set_option maxHeartbeats 6400000 in
theorem uint_big {base u : Nat} {v : Value} {l : List UInt8} (hu : 100 ≤ u) (hu64 : u < 18446744073709551616) (w : World) (h : BRow w base v l) (hb : base ≤ w.heap.size) (hl : l.length ≤ 1000) (htab : Lib.TabIs Tryd.prog w "internal/strconv.uint64pow10" .u64 Lib.pow10Tab) :
    Calls Tryd.prog 44 #[v, .int .u64 (u : Int), .int .i64 10] w fun e w' => ∃ v', e = .returned v' ∧ BRow w' base v' (l ++ Lib.decDigits u) ∧ Bys base w w' := by
  have hd := digits_len hu64
  have hnd : Lib.nDigits u ≤ 21 := by rw [← Lib.decDigits_length]; exact hd
  have hndc : Calls Tryd.prog 63 #[.int .u64 (u : Int)] (w.alloc (.cells Lib.zeros24 97)) fun e w' => e = .returned (.int .i64 (Lib.nDigits u : Int)) ∧ w' = w.alloc (.cells Lib.zeros24 97) :=
    Any.internal_strconv_numDigits { Tryd.laysM176 with } u (by omega) hu64 _ (Lib.tabIs_alloc htab _)
  have hal : Tryd.prog.arrayLen 97 = 24 := by simp [Program.arrayLen, Tryd.underlying97]
  have hsl : ∀ W, (Instr.sliceAt 97 (.pointer (some ⟨w.heap.size, 0, none⟩)) none (some (.int .i64 (Lib.nDigits u : Int))) none).run Tryd.prog W = .ok (.slice (some ⟨w.heap.size, 0, none⟩) (Lib.nDigits u) 24) W := fun W => by
    rw [run_sliceAt_array_h W 97 ⟨w.heap.size, 0, none⟩ (by simp [Program.arrayLen, Program.elem, Tryd.underlying97]) .i64 (Lib.nDigits u : Int) (by omega) (by rw [hal]; omega)]
    have he : Tryd.prog.elem 97 = 5 := by simp [Program.elem, Tryd.underlying97]
    simp [hal, he, slicedAt, Tryd.sizeOf5, Addr.add]
  have hH0 := Lib.holds_zero0 w 97 (Lib.nDigits u) (by omega)
  have hfmt : Calls Tryd.prog 64 #[.slice (some ⟨w.heap.size, 0, none⟩) (Array.replicate (Lib.nDigits u) (0 : UInt8)).size 24, .int .u64 (u : Int)] (w.alloc (.cells Lib.zeros24 97)) _ :=
    Any.internal_strconv_formatBase10 { Tryd.laysM176 with } w.heap.size 0 24 u (Array.replicate (Lib.nDigits u) 0) (w.alloc (.cells Lib.zeros24 97)) hH0 (by rw [Array.size_replicate]; exact Lib.lt_pow_nDigits u) hu64 (by rw [Array.size_replicate]; omega)
  rw [Array.size_replicate] at hfmt
  have HH0 := Lib.hid hH0
  have iu : (100 : Int) ≤ (u : Int) := by omega
  obtain ⟨nd, hndv⟩ : ∃ nd, nd = Lib.nDigits u := ⟨_, rfl⟩
  rw [← hndv] at hndc hsl hfmt
  have HND := Lib.hid hndv
  clear hH0 hal htab hndv hnd
  obtain ⟨va, vc, rfl⟩ := h.slice
  go_enter Tryd.func44, Tryd.ntmps44
  go_wp2_with fail
  refine hndc.mono ?_
  rintro e w' ⟨rfl, rfl⟩
  go_wp2_with fail
  refine hfmt.mono ?_
  rintro e w' ⟨rfl, k, v', dk, rfl, hF⟩
  have hcells : ∀ (j : Nat) (u' : Value), (Lib.byteCells (Lib.decDigits u))[j]? = some u' → ((Sort.putRow (fun (b : UInt8) => Value.int .u8 (b.toNat : Int)) (w.alloc (.cells Lib.zeros24 97)) w.heap.size 0 dk).drewN k).cell? ((⟨w.heap.size, 0, none⟩ : Addr).add j) = some u' := by
    intro j u' hj
    have hjl : j < (Lib.decDigits u).length := by have := (List.getElem?_eq_some_iff.1 hj).1; rwa [bc_len] at this
    have e5 : (Lib.byteCells (Lib.decDigits u))[j]? = some (Value.int .u8 ((Lib.decDigits u)[j].toNat : Int)) := by simp [Lib.byteCells, hjl]
    rw [e5] at hj
    cases hj
    have hF' : Lib.FmtInv (Lib.nDigits u) u 0 v' dk := by rw [← HND.out]; exact hF
    rw [Lib.row_is_numeral hF' j hjl, Lib.add_plain, World.cell?_drewN]
    exact Sort.cell?_putRow (fun (b : UInt8) => Value.int .u8 (b.toNat : Int)) _ w.heap.size 0 _ dk HH0.out (by rw [hF'.size, Array.size_replicate]) j (by rw [hF'.size]; rw [Lib.decDigits_length] at hjl; exact hjl)
  obtain ⟨os, eo⟩ := Lib.fin_at w (.cells Lib.zeros24 97) dk k 0
  have hbw : Below w.heap.size w ((Sort.putRow (fun (b : UInt8) => Value.int .u8 (b.toNat : Int)) (w.alloc (.cells Lib.zeros24 97)) w.heap.size 0 dk).drewN k) := by rw [eo]; exact Lib.below_grow w.heap.size w (Nat.le_refl _) k os
  generalize (Sort.putRow (fun (b : UInt8) => Value.int .u8 (b.toNat : Int)) (w.alloc (.cells Lib.zeros24 97)) w.heap.size 0 dk).drewN k = W2 at hcells hbw ⊢
  have h2 := h.fresh (But.of_below hbw [])
  have hlen : (Lib.decDigits u).length = nd := by rw [Lib.decDigits_length, HND.out]
  obtain ⟨v2, w2, hrun, hrow, hby⟩ := bapp h2 (by have := hbw.size; omega) 49 (.slice (some ⟨w.heap.size, 0, none⟩) nd 24) (Lib.decDigits u) (by rw [hlen]; exact Src.ofSlice W2 Tryd.underlying49 ⟨w.heap.size, 0, none⟩ nd 24 _ (by rw [bc_len, hlen, Nat.mul_one]) hcells (bc_one _)) (by omega)
  have hend := (Bys.of_but (base := base) (But.of_below hbw [])).trans hby
  clear eo hfmt hcells hlen hndc
  go_wp2_with (at_builtin; refine wpList_app _ rfl _ _ _ _ rfl _ _ v2 w2 rfl rfl hrun ?_; go_frame)
  go_wp2_with fail
  go_ret
  exact ⟨_, rfl, hrow, hend⟩
theorem auint_any {base u : Nat} {v : Value} {l : List UInt8} (hu64 : u < 18446744073709551616) (w : World) (h : BRow w base v l) (hb : base ≤ w.heap.size) (hl : l.length ≤ 1000) (htab : Lib.TabIs Tryd.prog w "internal/strconv.uint64pow10" .u64 Lib.pow10Tab) :
    Calls Tryd.prog 44 #[v, .int .u64 (u : Int), .int .i64 10] w fun e w' => ∃ v', e = .returned v' ∧ BRow w' base v' (l ++ Lib.decDigits u) ∧ Bys base w w' := by
  by_cases hu : u < 100
  · exact uint_small hu w h hb hl
  · exact uint_big (by omega) hu64 w h hb hl htab

set_option maxRecDepth 100000 in
set_option maxHeartbeats 1600000 in
theorem aint_any {base : Nat} {v : Value} {l : List UInt8} {i : Int} (hi : I64b i) (w : World) (h : BRow w base v l) (hb : base ≤ w.heap.size) (hl : l.length ≤ 900) (htab : Lib.TabBelow Tryd.prog base w "internal/strconv.uint64pow10" .u64 Lib.pow10Tab) :
    Calls Tryd.prog 41 #[v, .int .i64 i, .int .i64 10] w fun e w' => ∃ v', e = .returned v' ∧ BRow w' base v' (l ++ Lib.itoa i) ∧ Bys base w w' := by
  have h1 := hi.1
  have h2 := hi.2
  obtain ⟨va, vc, rfl⟩ := h.slice
  by_cases hneg : i < 0
  · obtain ⟨u, rfl⟩ : ∃ u : Nat, i = -(u : Int) := ⟨i.natAbs, by omega⟩
    have hu64 : u < 18446744073709551616 := by omega
    have hwr : IntKind.u64.wrap (-IntKind.u64.wrap (-(u : Int))) = (u : Int) := by rw [IntKind.wrap_u64, IntKind.wrap_u64]; omega
    have e1 : Lib.itoa (-(u : Int)) = [45] ++ Lib.decDigits u := Lib.itoa_neg u (by omega)
    rw [e1]
    have ha := h.fresh ((But.refl [] w).alloc (.cells #[.int .u8 45] 5))
    obtain ⟨v1, w1, hrun, hrow, hby⟩ := bapp ha (by simp; omega) 49 (.slice (some ⟨w.heap.size, 0, none⟩) 1 1) [45] (Src.ofSlice _ Tryd.underlying49 ⟨w.heap.size, 0, none⟩ 1 1 _ rfl (by intro j u' hj; match j, hj with | 0, hj => simp [Lib.byteCells] at hj; subst hj; simp [Addr.add]) (bc_one _)) (by simp; omega)
    have hby1 := (Bys.of_but (base := base) ((But.refl [] w).alloc (.cells #[.int .u8 45] 5))).trans hby
    have htab1 := htab w1 (hby1.below hb)
    have hcall := auint_any hu64 w1 hrow (by have := hby1.size; omega) (by simp; omega) htab1
    obtain ⟨va1, vc1, rfl⟩ := hrow.slice
    have HL := Lib.hid (List.append_assoc l [45] (Lib.decDigits u))
    obtain ⟨m1, hm1⟩ : ∃ m1, m1 = l ++ [45] := ⟨_, rfl⟩
    rw [← hm1] at hcall hrun hrow HL
    obtain ⟨n1, hn1⟩ : ∃ n1, n1 = m1.length := ⟨_, rfl⟩
    rw [← hn1] at hcall hrun
    clear hm1 hn1 hrow
    clear htab htab1 ha hby e1
    go_enter Tryd.func41, Tryd.ntmps41
    go_wp2_with (at_builtin; refine wpList_app _ rfl _ _ _ _ rfl _ _ _ w1 rfl rfl hrun ?_; go_frame)
    go_wp2_with fail
    refine hcall.mono ?_
    rintro e w2 ⟨v2, rfl, hrow2, hby2⟩
    go_wp2_with fail
    go_ret
    rw [HL.out] at hrow2
    exact ⟨_, rfl, hrow2, hby1.trans hby2⟩
  · obtain ⟨u, rfl⟩ : ∃ u : Nat, i = (u : Int) := ⟨i.toNat, by omega⟩
    have hu64 : u < 18446744073709551616 := by omega
    have hwr : IntKind.u64.wrap (u : Int) = (u : Int) := by rw [IntKind.wrap_u64]; omega
    have hneg' : ¬ (u : Int) < 0 := hneg
    rw [Lib.itoa_nonneg]
    have hcall := auint_any hu64 w h hb (by omega) htab.here
    clear htab
    go_enter Tryd.func41, Tryd.ntmps41
    go_wp2_with fail
    refine hcall.mono ?_
    rintro e w2 ⟨v2, rfl, hrow2, hby2⟩
    go_wp2_with fail
    go_ret
    exact ⟨_, rfl, hrow2, hby2⟩
theorem appInt_any {base : Nat} {v : Value} {l : List UInt8} {i : Int} (hi : I64b i) (w : World) (h : BRow w base v l) (hb : base ≤ w.heap.size) (hl : l.length ≤ 900) (htab : Lib.TabBelow Tryd.prog base w "internal/strconv.uint64pow10" .u64 Lib.pow10Tab) :
    Calls Tryd.prog 21 #[v, .int .i64 i, .int .i64 10] w fun e w' => ∃ v', e = .returned v' ∧ BRow w' base v' (l ++ Lib.itoa i) ∧ Bys base w w' := by
  have hcall := aint_any hi w h hb hl htab
  obtain ⟨va, vc, rfl⟩ := h.slice
  clear htab
  go_enter Tryd.func21, Tryd.ntmps21
  go_wp2_with fail
  refine hcall.mono ?_
  rintro e w2 ⟨v2, rfl, hrow2, hby2⟩
  go_wp2_with fail
  go_ret
  exact ⟨_, rfl, hrow2, hby2⟩
/-- 'string(b)'. -/
theorem conv_back (W : World) {base : Nat} {v : Value} {l : List UInt8} (h : BRow W base v l) : (convert 49 9 v).run Tryd.prog W = .ok (.string ⟨l.toArray⟩) W := by
  obtain ⟨g, cap, rfl, hc⟩ := h.cells
  refine run_convert_bytes_back W 49 9 5 ⟨g, 0, none⟩ cap l Tryd.underlying49 Tryd.underlying5 Tryd.underlying9 fun j hj => ?_
  rw [Lib.add_plain, Nat.zero_add]
  exact hc j _ (by simp [Lib.byteCells, hj])

section
variable {F : Fence} {n : Nat} {P : Program} (w : World) {ops : Array Oper} {rest : List Oper} {o : Oper} {a : Act} {Q : Exit → Act → World → Prop}
/-- append, at the operation, by its run, in a round. -/
theorem wpListIn_app (hg : o.guard = none) (s x : Operand) (t tx : TypeId) (hop : o.op = Op.call { callee := Callee.builtin Builtin.append, args := #[s, x], argTypes := #[t, tx] }) (v y v' : Value) (w' : World) (hs : a.eval s = v) (hx : a.eval x = y)
    (hrun : ∀ ty, (Builtin.append_ #[t, tx] ty #[v, y]).run P w = .ok v' w') (hK : wpListIn F n P ops Q rest (a.put o.dst v') w') :
    wpListIn F n P ops Q (o :: rest) a w := by
  refine wpListIn_plain hg fun K hK' => ?_
  unfold Oper.wpIn
  refine ⟨?_, ?_⟩
  · simp [Oper.about, hop, resolve, Target.leads, Sem.run_pure]
  · rw [Oper.semAt_plain F _ _ (by rw [hop]; intro c hc'; cases hc')]
    simp [execOp, hop, resolve, invoke, builtin, hs, hx, hrun o.type, Result.andThen]
    exact hK' _ _ hK
end
theorem Bys.keepsFrom {W W' : World} {base B : Nat} (h : Bys base W W') : KeepsFrom B W W' :=
  ⟨h.size, fun k o _ hk ho => (h.keep k (Array.getElem?_eq_some_iff.1 hk).1 (.inr fun cs z e => by
    rw [hk] at e
    obtain rfl := Option.some.inj e
    cases ho)).trans hk⟩


/-! ### The same of a number without a sign; FormatUint -/
theorem appUint_any {base u : Nat} {v : Value} {l : List UInt8} (hu64 : u < 18446744073709551616) (w : World) (h : BRow w base v l) (hb : base ≤ w.heap.size) (hl : l.length ≤ 1000) (htab : Lib.TabIs Tryd.prog w "internal/strconv.uint64pow10" .u64 Lib.pow10Tab) :
    Calls Tryd.prog 23 #[v, .int .u64 (u : Int), .int .i64 10] w fun e w' => ∃ v', e = .returned v' ∧ BRow w' base v' (l ++ Lib.decDigits u) ∧ Bys base w w' := by
  have hcall := auint_any hu64 w h hb hl htab
  obtain ⟨va, vc, rfl⟩ := h.slice
  clear htab
  go_enter Tryd.func23, Tryd.ntmps23
  go_wp2_with fail
  refine hcall.mono ?_
  rintro e w2 ⟨v2, rfl, hrow2, hby2⟩
  go_wp2_with fail
  go_ret
  exact ⟨_, rfl, hrow2, hby2⟩
set_option maxRecDepth 100000 in
set_option maxHeartbeats 1600000 in
theorem ifmtU_small {u : Nat} (hu : u < 100) (w : World) :
    Calls Tryd.prog 47 #[.int .u64 (u : Int), .int .i64 10] w fun e w' => e = .returned (.string ⟨(Lib.decDigits u).toArray⟩) ∧ Below w.heap.size w w' := by
  have hsm : Calls Tryd.prog 62 #[.int .i64 (u : Int)] w fun e w' => e = .returned (.string ⟨(Lib.decDigits u).toArray⟩) ∧ w' = w := Any.internal_strconv_small { Tryd.laysM176 with } u hu w
  obtain ⟨s, hs⟩ : ∃ s : ByteArray, s = ⟨(Lib.decDigits u).toArray⟩ := ⟨_, rfl⟩
  rw [← hs] at hsm
  have HS := Lib.hid hs
  clear hs
  have q1 : (u : Int) < 100 := by omega
  have q2 : IntKind.i64.wrap (u : Int) = (u : Int) := by rw [IntKind.wrap_i64]; omega
  go_enter Tryd.func47, Tryd.ntmps47
  go_wp2_with fail
  refine hsm.mono ?_
  rintro e w1 ⟨rfl, rfl⟩
  go_wp2_with fail
  go_ret
  exact ⟨ret_v (by rw [← HS.out]; rfl), Below.refl _ _⟩
set_option maxRecDepth 100000 in
set_option maxHeartbeats 6400000 in
theorem ifmtU_big {u : Nat} (hu : 100 ≤ u) (hu64 : u < 18446744073709551616) (w : World) (htab : Lib.TabIs Tryd.prog w "internal/strconv.uint64pow10" .u64 Lib.pow10Tab) :
    Calls Tryd.prog 47 #[.int .u64 (u : Int), .int .i64 10] w fun e w' => e = .returned (.string ⟨(Lib.decDigits u).toArray⟩) ∧ Below w.heap.size w w' := by
  have hd := digits_len hu64
  have hnd : Lib.nDigits u ≤ 21 := by rw [← Lib.decDigits_length]; exact hd
  have hndc : Calls Tryd.prog 63 #[.int .u64 (u : Int)] (w.alloc (.cells Lib.zeros24 97)) fun e w' => e = .returned (.int .i64 (Lib.nDigits u : Int)) ∧ w' = w.alloc (.cells Lib.zeros24 97) :=
    Any.internal_strconv_numDigits { Tryd.laysM176 with } u (by omega) hu64 _ (Lib.tabIs_alloc htab _)
  have hal : Tryd.prog.arrayLen 97 = 24 := by simp [Program.arrayLen, Tryd.underlying97]
  have hsl : ∀ W, (Instr.sliceAt 97 (.pointer (some ⟨w.heap.size, 0, none⟩)) none (some (.int .i64 (Lib.nDigits u : Int))) none).run Tryd.prog W = .ok (.slice (some ⟨w.heap.size, 0, none⟩) (Lib.nDigits u) 24) W := fun W => by
    rw [run_sliceAt_array_h W 97 ⟨w.heap.size, 0, none⟩ (by simp [Program.arrayLen, Program.elem, Tryd.underlying97]) .i64 (Lib.nDigits u : Int) (by omega) (by rw [hal]; omega)]
    have he : Tryd.prog.elem 97 = 5 := by simp [Program.elem, Tryd.underlying97]
    simp [hal, he, slicedAt, Tryd.sizeOf5, Addr.add]
  have hH0 := Lib.holds_zero0 w 97 (Lib.nDigits u) (by omega)
  have hfmt : Calls Tryd.prog 64 #[.slice (some ⟨w.heap.size, 0, none⟩) (Array.replicate (Lib.nDigits u) (0 : UInt8)).size 24, .int .u64 (u : Int)] (w.alloc (.cells Lib.zeros24 97)) _ :=
    Any.internal_strconv_formatBase10 { Tryd.laysM176 with } w.heap.size 0 24 u (Array.replicate (Lib.nDigits u) 0) (w.alloc (.cells Lib.zeros24 97)) hH0 (by rw [Array.size_replicate]; exact Lib.lt_pow_nDigits u) hu64 (by rw [Array.size_replicate]; omega)
  rw [Array.size_replicate] at hfmt
  have HH0 := Lib.hid hH0
  have iu : (100 : Int) ≤ (u : Int) := by omega
  obtain ⟨nd, hndv⟩ : ∃ nd, nd = Lib.nDigits u := ⟨_, rfl⟩
  rw [← hndv] at hndc hsl hfmt
  have HND := Lib.hid hndv
  clear hH0 hal htab hndv hnd
  go_enter Tryd.func47, Tryd.ntmps47
  go_wp2_with fail
  refine hndc.mono ?_
  rintro e w' ⟨rfl, rfl⟩
  go_wp2_with fail
  refine hfmt.mono ?_
  rintro e w' ⟨rfl, k, v', dk, rfl, hF⟩
  have hcells : ∀ (j : Nat) (u' : Value), (Lib.byteCells (Lib.decDigits u))[j]? = some u' → ((Sort.putRow (fun (b : UInt8) => Value.int .u8 (b.toNat : Int)) (w.alloc (.cells Lib.zeros24 97)) w.heap.size 0 dk).drewN k).cell? ((⟨w.heap.size, 0, none⟩ : Addr).add j) = some u' := by
    intro j u' hj
    have hjl : j < (Lib.decDigits u).length := by have := (List.getElem?_eq_some_iff.1 hj).1; rwa [bc_len] at this
    have e5 : (Lib.byteCells (Lib.decDigits u))[j]? = some (Value.int .u8 ((Lib.decDigits u)[j].toNat : Int)) := by simp [Lib.byteCells, hjl]
    rw [e5] at hj
    cases hj
    have hF' : Lib.FmtInv (Lib.nDigits u) u 0 v' dk := by rw [← HND.out]; exact hF
    rw [Lib.row_is_numeral hF' j hjl, Lib.add_plain, World.cell?_drewN]
    exact Sort.cell?_putRow (fun (b : UInt8) => Value.int .u8 (b.toNat : Int)) _ w.heap.size 0 _ dk HH0.out (by rw [hF'.size, Array.size_replicate]) j (by rw [hF'.size]; rw [Lib.decDigits_length] at hjl; exact hjl)
  obtain ⟨os, eo⟩ := Lib.fin_at w (.cells Lib.zeros24 97) dk k 0
  have hbw : Below w.heap.size w ((Sort.putRow (fun (b : UInt8) => Value.int .u8 (b.toNat : Int)) (w.alloc (.cells Lib.zeros24 97)) w.heap.size 0 dk).drewN k) := by rw [eo]; exact Lib.below_grow w.heap.size w (Nat.le_refl _) k os
  generalize (Sort.putRow (fun (b : UInt8) => Value.int .u8 (b.toNat : Int)) (w.alloc (.cells Lib.zeros24 97)) w.heap.size 0 dk).drewN k = W2 at hcells hbw ⊢
  have hlen : (Lib.decDigits u).length = nd := by rw [Lib.decDigits_length, HND.out]
  have hcv : (convert 49 9 (.slice (some ⟨w.heap.size, 0, none⟩) nd 24)).run Tryd.prog W2 = .ok (.string ⟨(Lib.decDigits u).toArray⟩) W2 := by
    rw [← hlen]
    refine run_convert_bytes_back W2 49 9 5 ⟨w.heap.size, 0, none⟩ 24 (Lib.decDigits u) Tryd.underlying49 Tryd.underlying5 Tryd.underlying9 fun j hj => ?_
    exact hcells j _ (by simp [Lib.byteCells, hj])
  obtain ⟨s, hs⟩ : ∃ s : ByteArray, s = ⟨(Lib.decDigits u).toArray⟩ := ⟨_, rfl⟩
  rw [← hs] at hcv
  have HS := Lib.hid hs
  clear eo hfmt hcells hlen hndc hs
  go_wp2_with fail
  go_ret
  exact ⟨ret_v (by rw [← HS.out]; rfl), hbw⟩
theorem fmtU_any {u : Nat} (hu64 : u < 18446744073709551616) (w : World) (h : Vars w) :
    Calls Tryd.prog 28 #[.int .u64 (u : Int), .int .i64 10] w fun e w' => e = .returned (.string ⟨(Lib.decDigits u).toArray⟩) ∧ Below w.heap.size w w' := by
  have hcall : Calls Tryd.prog 47 #[.int .u64 (u : Int), .int .i64 10] w fun e w' => e = .returned (.string ⟨(Lib.decDigits u).toArray⟩) ∧ Below w.heap.size w w' := by
    by_cases hu : u < 100
    · exact ifmtU_small hu w
    · exact ifmtU_big (by omega) hu64 w h.tab
  obtain ⟨s, hs⟩ : ∃ s : ByteArray, s = ⟨(Lib.decDigits u).toArray⟩ := ⟨_, rfl⟩
  rw [← hs] at hcall
  have HS := Lib.hid hs
  clear hs
  go_enter Tryd.func28, Tryd.ntmps28
  go_wp2_with fail
  refine hcall.mono ?_
  rintro e w2 ⟨rfl, hb⟩
  go_wp2_with fail
  go_ret
  exact ⟨ret_v (by rw [← HS.out]; rfl), hb⟩
end Go.Proofs.YtengpehiknoheaaDoor
