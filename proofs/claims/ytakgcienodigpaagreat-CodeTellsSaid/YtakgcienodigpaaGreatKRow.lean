/-
  The walks of putInt, putChannel, putFlag; of putRow at each kind of things.
-/
import Derived.Test.YtakgcienodigpaaGreatKBuild
import Derived.Test.YtakgcienodigpaaGreatKPure
namespace Go.Proofs.YtakgcienodigpaaGreat
open Go.RowKit Oct

theorem but_below {S : List Nat} {w0 w1 w2 : World} (h : But S w0 w1) (k : Below w0.heap.size w1 w2) : But S w0 w2 :=
  ⟨k.os.trans h.os, k.tape.trans h.tape, k.output.trans h.output, Nat.le_trans h.size k.size, fun b hb hn => (k.block b hb).trans (h.block b hb hn)⟩
theorem but_stay {S : List Nat} {w w' : World} {lo hi : Nat} (h : But S w w') (t : hi ≤ w.heap.size) (hS : ∀ k ∈ S, hi ≤ k) : Stay lo hi w w' :=
  fun b _ hb => h.block b (by omega) (fun e => by have := hS b e; omega)
/-- A write to other blocks than the builder's leaves it. -/
theorem Bld.beside {base b : Nat} {l : List UInt8} {w w' : World} (h : Bld base b l w) {S : List Nat} (hb : But S w w') (hS : ∀ k ∈ S, k < base) : Bld base b l w' := by
  have key : ∀ p, Lib.BuilderAt 87 5 base b p (Lib.byteCells l) w → Lib.BuilderAt 87 5 base b p (Lib.byteCells l) w' := by
    rintro p ⟨h1, v, h2, h3, h4⟩
    refine ⟨h1, v, (hb.block b (Array.getElem?_eq_some_iff.1 h2).1 (fun e => by have := hS b e; omega)).trans h2, hb.row h3 (fun g hg e => ?_), h4⟩
    have hge : base ≤ g := by
      rcases h3.2 with ⟨hv, _⟩ | ⟨g', cap, cur, hv, hl, _⟩
      · rw [hv] at hg; simp [Value.ownBlock] at hg
      · rw [hv] at hg; simp [Value.ownBlock] at hg; omega
    have := hS g e
    omega
  rcases h with h | h
  · exact .inl (key _ h)
  · exact .inr (key _ h)
theorem ret_s {a b : List UInt8} (h : a = b) : Ending.returned (.string ⟨a.toArray⟩) = .returned (.string ⟨b.toArray⟩) := by rw [h]

theorem putInt_any (v : Nat) (w : World) (hv : v < 9223372036854775808) :
    Calls Tryz.prog 14 #[.int .i64 (v : Int)] w fun e w' => e = .returned (.string ⟨(numL v).toArray⟩) ∧ Below w.heap.size w w' := by
  have hw1 : IntKind.u64.wrap (v : Int) = (v : Int) := by rw [IntKind.wrap_u64]; omega
  have hc := fun W => num_any v W (by omega)
  go_enter Tryz.func14, Tryz.ntmps14
  go_wp2_with (go_at_call 40; refine (hc _).mono ?_; rintro e w1 ⟨rfl, hb⟩)
  go_ret
  exact ⟨rfl, hb⟩
theorem putZ_any (v : Int) (w : World) (h0 : 0 ≤ v) (hv : I64b v) :
    Calls Tryz.prog 14 #[.int .i64 v] w fun e w' => e = .returned (.string ⟨(numZ v).toArray⟩) ∧ Below w.heap.size w w' := by
  obtain ⟨n, rfl⟩ := Int.eq_ofNat_of_zero_le h0
  have := putInt_any n w (by have := hv.2; omega)
  simpa [numZ] using this
theorem putChannel_any (c : Int) (w : World) (h0 : -1 ≤ c) (hv : c ≤ 5) :
    Calls Tryz.prog 74 #[.int .i64 c] w fun e w' => e = .returned (.string ⟨(numZ (c + 1)).toArray⟩) ∧ Below w.heap.size w w' := by
  have hw1 : IntKind.i64.wrap (c + 1) = c + 1 := by rw [IntKind.wrap_i64]; omega
  have hc := fun W => putZ_any (c + 1) W (by omega) ⟨by omega, by omega⟩
  go_enter Tryz.func74, Tryz.ntmps74
  go_wp2_with (go_at_call 14; refine (hc _).mono ?_; rintro e w1 ⟨rfl, hb⟩)
  go_ret
  exact ⟨rfl, hb⟩
theorem putFlag_any (b : Bool) (w : World) :
    Calls Tryz.prog 42 #[.bool b] w fun e w' => e = .returned (.string ⟨(flagL b).toArray⟩) ∧ Below w.heap.size w w' := by
  have h1 : ∀ W, Calls Tryz.prog 14 #[.int .i64 1] W fun e w' => e = .returned (.string ⟨(flagL true).toArray⟩) ∧ Below W.heap.size W w' := fun W => putInt_any 1 W (by omega)
  have h0 : ∀ W, Calls Tryz.prog 14 #[.int .i64 0] W fun e w' => e = .returned (.string ⟨(flagL false).toArray⟩) ∧ Below W.heap.size W w' := fun W => putInt_any 0 W (by omega)
  go_enter Tryz.func42, Tryz.ntmps42
  cases b
  · go_wp2_with (go_at_call 14; refine (h0 _).mono ?_; rintro e w1 ⟨rfl, hb⟩)
    go_ret
    exact ⟨rfl, hb⟩
  · go_wp2_with (go_at_call 14; refine (h1 _).mono ?_; rintro e w1 ⟨rfl, hb⟩)
    go_ret
    exact ⟨rfl, hb⟩

theorem flat_le {α : Type} {f : α → List UInt8} {M : Nat} {xs : List α} (h : ∀ x ∈ xs, (f x).length ≤ M) : (xs.flatMap f).length ≤ xs.length * M := by
  induction xs with
  | nil => simp
  | cons x t ih =>
    have h1 := h x (by simp)
    have h2 := ih (fun y hy => h y (by simp [hy]))
    simp only [List.flatMap_cons, List.length_append, List.length_cons, Nat.add_mul, Nat.one_mul]
    omega
theorem row_le {α : Type} {f : α → List UInt8} {M : Nat} {xs : List α} (h : ∀ x ∈ xs, (f x).length ≤ M) (hn : xs.length ≤ 1000) : (rowL f xs).length ≤ 10 + xs.length * M := by
  have h1 := flat_le h
  have h2 := numL_len10 (u := xs.length) (by omega)
  unfold rowL
  rw [List.length_append]
  omega
theorem take_flat {α : Type} {f : α → List UInt8} {xs : List α} {k : Nat} {x : α} (h : xs[k]? = some x) : (xs.take (k + 1)).flatMap f = (xs.take k).flatMap f ++ f x := by
  rw [List.take_add_one, h]; simp
/-- How much of a row has been put. -/
def sofar {α : Type} (f : α → List UInt8) (xs : List α) (k : Nat) : List UInt8 := numL xs.length ++ (xs.take k).flatMap f
theorem sofar_zero {α : Type} (f : α → List UInt8) (xs : List α) : sofar f xs 0 = numL xs.length := by simp [sofar]
theorem sofar_next {α : Type} {f : α → List UInt8} {xs : List α} {k : Nat} {x : α} (h : xs[k]? = some x) : sofar f xs k ++ f x = sofar f xs (k + 1) := by rw [sofar, sofar, take_flat h, List.append_assoc]
theorem sofar_all {α : Type} {f : α → List UInt8} {xs : List α} {k : Nat} (h : ¬ k < xs.length) : sofar f xs k = rowL f xs := by rw [sofar, rowL, List.take_of_length_le (by omega)]
theorem sofar_len {α : Type} {f : α → List UInt8} {M : Nat} {xs : List α} (h : ∀ x ∈ xs, (f x).length ≤ M) (hn : xs.length ≤ 1000) (hM : M ≤ 100000) (k : Nat) : (sofar f xs k).length ≤ 100000010 := by
  have h1 := flat_le (fun x (hx : x ∈ xs.take k) => h x (List.mem_of_mem_take hx))
  have h2 := numL_len10 (u := xs.length) (by omega)
  have h3 : (xs.take k).length * M ≤ 1000 * 100000 := Nat.mul_le_mul (by rw [List.length_take]; omega) hM
  unfold sofar
  rw [List.length_append]
  omega

set_option maxRecDepth 100000 in
set_option maxHeartbeats 800000 in
theorem putRowInt_any {lo hi : Nat} {v : Value} {xs : List Int} (S : List Nat) (J : World → Prop) (M : Nat) (w : World) (h : IntsAt lo hi w v xs) (t : hi ≤ w.heap.size) (hn : xs.length ≤ 1000) (hM : M ≤ 100000) (hx : ∀ x ∈ xs, (numZ x).length ≤ M)
    (hS : ∀ k ∈ S, hi ≤ k ∧ k < w.heap.size) (hJ : ∀ W W', J W → Below w.heap.size W W' → J W') (h0 : J w)
    (hone : ∀ (W : World) (x : Int), x ∈ xs → I64b x → J W → Calls Tryz.prog 14 #[.int .i64 x] W fun e W' => e = .returned (.string ⟨(numZ x).toArray⟩) ∧ But S W W' ∧ J W') :
    Calls Tryz.prog 13 #[v, .func (.func 14) #[] #[]] w fun e w' => e = .returned (.string ⟨(rowL numZ xs).toArray⟩) ∧ But S w w' ∧ J w' := by
  obtain ⟨a, c, rfl⟩ := h.slice
  have hw1 : IntKind.u64.wrap (xs.length : Int) = (xs.length : Int) := by rw [IntKind.wrap_u64]; omega
  have hc := fun W => num_any xs.length W (by omega)
  have hb0 := bld_new w
  have hl0 := numL_len10 (u := xs.length) (by omega)
  go_enter Tryz.func13, Tryz.ntmps13
  go_wp2_with (go_at_call 40; refine (hc _).mono ?_; rintro e w1 ⟨rfl, hb1⟩)
  have B1 : Below w.heap.size w w1 := below_next ((Below.refl _ w).alloc (Nat.le_refl _) _) hb1 (Nat.le_refl _)
  have hb2 := hb0.later hb1
  have hsz := B1.size
  clear hb0 hc
  go_wp2_with (go_at_call 39; refine (write_any _ _ _ _ _ hb2 (by simp; omega) hsz).mono ?_)
  rintro e w2 ⟨⟨q, rfl⟩, hb3, B2⟩
  rw [List.nil_append] at hb3
  have HB := (B1.trans B2)
  have HJ := hJ _ _ h0 HB
  have HN : But S w w2 := but_below (But.refl S w) HB
  clear hb2 hsz B1 B2 HB hb1
  go_wp2_with fail
  go_loopw [15] (fun iv wr => ∃ k : Nat, k ≤ xs.length ∧ iv = .int .i64 (k : Int) ∧ But S w wr ∧ J wr ∧ Bld w.heap.size w.heap.size (sofar numZ xs k) wr) (fun iv _ => xs.length - (intOf iv).toNat)
  case atStart => exact ⟨0, Nat.zero_le _, rfl, HN, HJ, by rw [sofar_zero]; exact hb3⟩
  case round =>
    obtain ⟨k, hk, rfl, hN, hJr, hbr⟩ := hrel
    by_cases hlt : k < xs.length
    · have hlt' : (k : Int) < (xs.length : Int) := by omega
      have k0 : (0 : Int) ≤ (k : Int) := by omega
      have hw2 : IntKind.i64.wrap ((k : Int) + 1) = (k : Int) + 1 := by rw [IntKind.wrap_i64]; omega
      have hst := h.stay (but_stay hN t (fun k hk => (hS k hk).1))
      obtain ⟨b, off, x, rfl, -, hbh, hx', hok, c0⟩ := hst.at hlt
      have hxm := List.mem_of_getElem? hx'
      have HX := Lib.hid hx'
      clear hx'
      have hsz := hN.size
      have hJa := hJr
      have hba := hbr
      have hNa := hN
      have hone' := hone wr x hxm hok hJa
      clear hst hbr hJr hN
      go_wp2_with (go_at_call 14; refine hone'.mono ?_)
      rintro e w3 ⟨rfl, hN3, hJ3⟩
      have hb4 := hba.beside hN3 (fun k hk => (hS k hk).2)
      have hN4 : But S w w3 := hNa.trans hN3 (fun x hx _ => hx)
      have hs4 := hN4.size
      have hl1 := sofar_len hx hn hM k
      have hl2 := hx x hxm
      clear hone' hba hNa
      go_wp2_with (go_at_call 39; refine (write_any _ _ _ _ _ hb4 (by omega) hs4).mono ?_)
      rintro e w5 ⟨⟨q, rfl⟩, hb5, B5⟩
      rw [sofar_next HX.out] at hb5
      have hJ5 := hJ _ _ hJ3 B5
      have hN5 := but_below hN4 B5
      go_wp2_with fail
      go_roundw
      case rel => exact ⟨k + 1, by omega, by go_num, hN5, hJ5, hb5⟩
      case measure => simp [intOf]; omega
    · have hlt' : ¬ (k : Int) < (xs.length : Int) := by omega
      have HE := Lib.hid (sofar_all (f := numZ) hlt)
      have hs4 := hN.size
      go_wp2_with (go_at_call 41; refine (string_any _ _ _ _ hbr hs4).mono ?_; rintro e w5 ⟨rfl, B5⟩)
      have hJ5 := hJ _ _ hJr B5
      have hN5 := but_below hN B5
      go_wp2_with fail
      go_ret
      exact ⟨ret_s HE.out, hN5, hJ5⟩

set_option maxRecDepth 100000 in
set_option maxHeartbeats 800000 in
theorem putRowCase_any {lo hi : Nat} {v : Value} {xs : List Cas} (S : List Nat) (J : World → Prop) (M : Nat) (w : World) (h : CasesAt lo hi w v xs) (t : hi ≤ w.heap.size) (hn : xs.length ≤ 1000) (hM : M ≤ 100000) (hx : ∀ x ∈ xs, (caseL x).length ≤ M)
    (hS : ∀ k ∈ S, hi ≤ k ∧ k < w.heap.size) (hJ : ∀ W W', J W → Below w.heap.size W W' → J W') (h0 : J w)
    (hone : ∀ (W : World) (x : Cas), x ∈ xs → x.ok → J W → Calls Tryz.prog 44 #[.agg #[.bool x.s, .int .i64 x.c, .int .i64 x.v, .int .i64 x.o]] W fun e W' => e = .returned (.string ⟨(caseL x).toArray⟩) ∧ But S W W' ∧ J W') :
    Calls Tryz.prog 43 #[v, .func (.func 44) #[] #[]] w fun e w' => e = .returned (.string ⟨(rowL caseL xs).toArray⟩) ∧ But S w w' ∧ J w' := by
  obtain ⟨a, c, rfl⟩ := h.slice
  have hw1 : IntKind.u64.wrap (xs.length : Int) = (xs.length : Int) := by rw [IntKind.wrap_u64]; omega
  have hc := fun W => num_any xs.length W (by omega)
  have hb0 := bld_new w
  have hl0 := numL_len10 (u := xs.length) (by omega)
  go_enter Tryz.func43, Tryz.ntmps43
  go_wp2_with (go_at_call 40; refine (hc _).mono ?_; rintro e w1 ⟨rfl, hb1⟩)
  have B1 : Below w.heap.size w w1 := below_next ((Below.refl _ w).alloc (Nat.le_refl _) _) hb1 (Nat.le_refl _)
  have hb2 := hb0.later hb1
  have hsz := B1.size
  clear hb0 hc
  go_wp2_with (go_at_call 39; refine (write_any _ _ _ _ _ hb2 (by simp; omega) hsz).mono ?_)
  rintro e w2 ⟨⟨q, rfl⟩, hb3, B2⟩
  rw [List.nil_append] at hb3
  have HB := (B1.trans B2)
  have HJ := hJ _ _ h0 HB
  have HN : But S w w2 := but_below (But.refl S w) HB
  clear hb2 hsz B1 B2 HB hb1
  go_wp2_with fail
  go_loopw [15] (fun iv wr => ∃ k : Nat, k ≤ xs.length ∧ iv = .int .i64 (k : Int) ∧ But S w wr ∧ J wr ∧ Bld w.heap.size w.heap.size (sofar caseL xs k) wr) (fun iv _ => xs.length - (intOf iv).toNat)
  case atStart => exact ⟨0, Nat.zero_le _, rfl, HN, HJ, by rw [sofar_zero]; exact hb3⟩
  case round =>
    obtain ⟨k, hk, rfl, hN, hJr, hbr⟩ := hrel
    by_cases hlt : k < xs.length
    · have hlt' : (k : Int) < (xs.length : Int) := by omega
      have k0 : (0 : Int) ≤ (k : Int) := by omega
      have hw2 : IntKind.i64.wrap ((k : Int) + 1) = (k : Int) + 1 := by rw [IntKind.wrap_i64]; omega
      have hst := h.stay (but_stay hN t (fun k hk => (hS k hk).1))
      obtain ⟨b, off, x, rfl, -, hbh, hx', hok, c0, c1, c2, c3⟩ := hst.at hlt
      have hxm := List.mem_of_getElem? hx'
      have HX := Lib.hid hx'
      clear hx'
      have hsz := hN.size
      have hA : Below w.heap.size wr (wr.alloc (.cells #[.bool x.s, .int .i64 x.c, .int .i64 x.v, .int .i64 x.o] 52)) := (Below.refl _ _).alloc hsz _
      have hJa := hJ _ _ hJr hA
      have hba := hbr.beside (But.of_none (World.grownBy_alloc wr (.cells #[.bool x.s, .int .i64 x.c, .int .i64 x.v, .int .i64 x.o] 52) none) []) (by simp)
      have hNa := but_below hN hA
      have hone' := hone (wr.alloc (.cells #[.bool x.s, .int .i64 x.c, .int .i64 x.v, .int .i64 x.o] 52)) x hxm hok hJa
      clear hst hbr hJr hN
      go_wp2_with (go_at_call 44; refine hone'.mono ?_)
      rintro e w3 ⟨rfl, hN3, hJ3⟩
      have hb4 := hba.beside hN3 (fun k hk => (hS k hk).2)
      have hN4 : But S w w3 := hNa.trans hN3 (fun x hx _ => hx)
      have hs4 := hN4.size
      have hl1 := sofar_len hx hn hM k
      have hl2 := hx x hxm
      clear hone' hba hNa
      go_wp2_with (go_at_call 39; refine (write_any _ _ _ _ _ hb4 (by omega) hs4).mono ?_)
      rintro e w5 ⟨⟨q, rfl⟩, hb5, B5⟩
      rw [sofar_next HX.out] at hb5
      have hJ5 := hJ _ _ hJ3 B5
      have hN5 := but_below hN4 B5
      go_wp2_with fail
      go_roundw
      case rel => exact ⟨k + 1, by omega, by go_num, hN5, hJ5, hb5⟩
      case measure => simp [intOf]; omega
    · have hlt' : ¬ (k : Int) < (xs.length : Int) := by omega
      have HE := Lib.hid (sofar_all (f := caseL) hlt)
      have hs4 := hN.size
      go_wp2_with (go_at_call 41; refine (string_any _ _ _ _ hbr hs4).mono ?_; rintro e w5 ⟨rfl, B5⟩)
      have hJ5 := hJ _ _ hJr B5
      have hN5 := but_below hN B5
      go_wp2_with fail
      go_ret
      exact ⟨ret_s HE.out, hN5, hJ5⟩

set_option maxRecDepth 100000 in
set_option maxHeartbeats 800000 in
theorem putRowSite_any {lo hi : Nat} {v : Value} {xs : List Sit} (S : List Nat) (J : World → Prop) (M : Nat) (w : World) (h : SitesAt lo hi w v xs) (t : hi ≤ w.heap.size) (hn : xs.length ≤ 1000) (hM : M ≤ 100000) (hx : ∀ x ∈ xs, (siteL x).length ≤ M)
    (hS : ∀ k ∈ S, hi ≤ k ∧ k < w.heap.size) (hJ : ∀ W W', J W → Below w.heap.size W W' → J W') (h0 : J w)
    (hone : ∀ (W : World) (x : Sit) (ra : Option Addr) (rc : Nat), x ∈ xs → CasesAt lo hi W (.slice ra x.cs.length rc) x.cs → hi ≤ W.heap.size → J W → Calls Tryz.prog 16 #[.agg #[.slice ra x.cs.length rc, .bool x.d]] W fun e W' => e = .returned (.string ⟨(siteL x).toArray⟩) ∧ But S W W' ∧ J W') :
    Calls Tryz.prog 15 #[v, .func (.func 16) #[] #[]] w fun e w' => e = .returned (.string ⟨(rowL siteL xs).toArray⟩) ∧ But S w w' ∧ J w' := by
  obtain ⟨a, c, rfl⟩ := h.slice
  have hw1 : IntKind.u64.wrap (xs.length : Int) = (xs.length : Int) := by rw [IntKind.wrap_u64]; omega
  have hc := fun W => num_any xs.length W (by omega)
  have hb0 := bld_new w
  have hl0 := numL_len10 (u := xs.length) (by omega)
  go_enter Tryz.func15, Tryz.ntmps15
  go_wp2_with (go_at_call 40; refine (hc _).mono ?_; rintro e w1 ⟨rfl, hb1⟩)
  have B1 : Below w.heap.size w w1 := below_next ((Below.refl _ w).alloc (Nat.le_refl _) _) hb1 (Nat.le_refl _)
  have hb2 := hb0.later hb1
  have hsz := B1.size
  clear hb0 hc
  go_wp2_with (go_at_call 39; refine (write_any _ _ _ _ _ hb2 (by simp; omega) hsz).mono ?_)
  rintro e w2 ⟨⟨q, rfl⟩, hb3, B2⟩
  rw [List.nil_append] at hb3
  have HB := (B1.trans B2)
  have HJ := hJ _ _ h0 HB
  have HN : But S w w2 := but_below (But.refl S w) HB
  clear hb2 hsz B1 B2 HB hb1
  go_wp2_with fail
  go_loopw [15] (fun iv wr => ∃ k : Nat, k ≤ xs.length ∧ iv = .int .i64 (k : Int) ∧ But S w wr ∧ J wr ∧ Bld w.heap.size w.heap.size (sofar siteL xs k) wr) (fun iv _ => xs.length - (intOf iv).toNat)
  case atStart => exact ⟨0, Nat.zero_le _, rfl, HN, HJ, by rw [sofar_zero]; exact hb3⟩
  case round =>
    obtain ⟨k, hk, rfl, hN, hJr, hbr⟩ := hrel
    by_cases hlt : k < xs.length
    · have hlt' : (k : Int) < (xs.length : Int) := by omega
      have k0 : (0 : Int) ≤ (k : Int) := by omega
      have hw2 : IntKind.i64.wrap ((k : Int) + 1) = (k : Int) + 1 := by rw [IntKind.wrap_i64]; omega
      have hst := h.stay (but_stay hN t (fun k hk => (hS k hk).1))
      obtain ⟨b, off, ra, rc, x, rfl, -, hbh, hx', c0, c1, hr⟩ := hst.at hlt
      have hxm := List.mem_of_getElem? hx'
      have HX := Lib.hid hx'
      clear hx'
      have hsz := hN.size
      have hA : Below w.heap.size wr (wr.alloc (.cells #[.slice ra x.cs.length rc, .bool x.d] 40)) := (Below.refl _ _).alloc hsz _
      have hJa := hJ _ _ hJr hA
      have hba := hbr.beside (But.of_none (World.grownBy_alloc wr (.cells #[.slice ra x.cs.length rc, .bool x.d] 40) none) []) (by simp)
      have hNa := but_below hN hA
      have hone' := hone (wr.alloc (.cells #[.slice ra x.cs.length rc, .bool x.d] 40)) x ra rc hxm (hr.stay (fun b _ hb => Below.heap_alloc wr _ b (by omega))) (by simp; omega) hJa
      clear hst hbr hJr hN
      go_wp2_with (go_at_call 16; refine hone'.mono ?_)
      rintro e w3 ⟨rfl, hN3, hJ3⟩
      have hb4 := hba.beside hN3 (fun k hk => (hS k hk).2)
      have hN4 : But S w w3 := hNa.trans hN3 (fun x hx _ => hx)
      have hs4 := hN4.size
      have hl1 := sofar_len hx hn hM k
      have hl2 := hx x hxm
      clear hone' hba hNa
      go_wp2_with (go_at_call 39; refine (write_any _ _ _ _ _ hb4 (by omega) hs4).mono ?_)
      rintro e w5 ⟨⟨q, rfl⟩, hb5, B5⟩
      rw [sofar_next HX.out] at hb5
      have hJ5 := hJ _ _ hJ3 B5
      have hN5 := but_below hN4 B5
      go_wp2_with fail
      go_roundw
      case rel => exact ⟨k + 1, by omega, by go_num, hN5, hJ5, hb5⟩
      case measure => simp [intOf]; omega
    · have hlt' : ¬ (k : Int) < (xs.length : Int) := by omega
      have HE := Lib.hid (sofar_all (f := siteL) hlt)
      have hs4 := hN.size
      go_wp2_with (go_at_call 41; refine (string_any _ _ _ _ hbr hs4).mono ?_; rintro e w5 ⟨rfl, B5⟩)
      have hJ5 := hJ _ _ hJr B5
      have hN5 := but_below hN B5
      go_wp2_with fail
      go_ret
      exact ⟨ret_s HE.out, hN5, hJ5⟩

set_option maxRecDepth 100000 in
set_option maxHeartbeats 800000 in
theorem putRowIns_any {lo hi : Nat} {v : Value} {xs : List In} (S : List Nat) (J : World → Prop) (pb : Nat) (M : Nat) (w : World) (h : CodeAt lo hi w v xs) (t : hi ≤ w.heap.size) (hn : xs.length ≤ 1000) (hM : M ≤ 100000) (hx : ∀ x ∈ xs, (insL x).length ≤ M)
    (hS : ∀ k ∈ S, hi ≤ k ∧ k < w.heap.size) (hJ : ∀ W W', J W → Below w.heap.size W W' → J W') (h0 : J w)
    (hone : ∀ (W : World) (x : In), x ∈ xs → x.ok → J W → Calls Tryz.prog 46 #[.agg #[.int .u8 (x.o : Int), .int .i64 x.a, .int .i64 x.b, .int .i64 x.c, .int .i64 x.k], .pointer (some ⟨pb, 0, none⟩)] W fun e W' => e = .returned (.string ⟨(insL x).toArray⟩) ∧ But S W W' ∧ J W') :
    Calls Tryz.prog 50 #[v, .func (.func 46) #[] #[.pointer (some ⟨pb, 0, none⟩)]] w fun e w' => e = .returned (.string ⟨(rowL insL xs).toArray⟩) ∧ But S w w' ∧ J w' := by
  obtain ⟨a, c, rfl⟩ := h.slice
  have hw1 : IntKind.u64.wrap (xs.length : Int) = (xs.length : Int) := by rw [IntKind.wrap_u64]; omega
  have hc := fun W => num_any xs.length W (by omega)
  have hb0 := bld_new w
  have hl0 := numL_len10 (u := xs.length) (by omega)
  go_enter Tryz.func50, Tryz.ntmps50
  go_wp2_with (go_at_call 40; refine (hc _).mono ?_; rintro e w1 ⟨rfl, hb1⟩)
  have B1 : Below w.heap.size w w1 := below_next ((Below.refl _ w).alloc (Nat.le_refl _) _) hb1 (Nat.le_refl _)
  have hb2 := hb0.later hb1
  have hsz := B1.size
  clear hb0 hc
  go_wp2_with (go_at_call 39; refine (write_any _ _ _ _ _ hb2 (by simp; omega) hsz).mono ?_)
  rintro e w2 ⟨⟨q, rfl⟩, hb3, B2⟩
  rw [List.nil_append] at hb3
  have HB := (B1.trans B2)
  have HJ := hJ _ _ h0 HB
  have HN : But S w w2 := but_below (But.refl S w) HB
  clear hb2 hsz B1 B2 HB hb1
  go_wp2_with fail
  go_loopw [15] (fun iv wr => ∃ k : Nat, k ≤ xs.length ∧ iv = .int .i64 (k : Int) ∧ But S w wr ∧ J wr ∧ Bld w.heap.size w.heap.size (sofar insL xs k) wr) (fun iv _ => xs.length - (intOf iv).toNat)
  case atStart => exact ⟨0, Nat.zero_le _, rfl, HN, HJ, by rw [sofar_zero]; exact hb3⟩
  case round =>
    obtain ⟨k, hk, rfl, hN, hJr, hbr⟩ := hrel
    by_cases hlt : k < xs.length
    · have hlt' : (k : Int) < (xs.length : Int) := by omega
      have k0 : (0 : Int) ≤ (k : Int) := by omega
      have hw2 : IntKind.i64.wrap ((k : Int) + 1) = (k : Int) + 1 := by rw [IntKind.wrap_i64]; omega
      have hst := h.stay (but_stay hN t (fun k hk => (hS k hk).1))
      obtain ⟨b, off, x, rfl, -, hbh, hx', hok, c0, c1, c2, c3, c4⟩ := hst.at hlt
      have hxm := List.mem_of_getElem? hx'
      have HX := Lib.hid hx'
      clear hx'
      have hsz := hN.size
      have hA : Below w.heap.size wr (wr.alloc (.cells #[.int .u8 (x.o : Int), .int .i64 x.a, .int .i64 x.b, .int .i64 x.c, .int .i64 x.k] 42)) := (Below.refl _ _).alloc hsz _
      have hJa := hJ _ _ hJr hA
      have hba := hbr.beside (But.of_none (World.grownBy_alloc wr (.cells #[.int .u8 (x.o : Int), .int .i64 x.a, .int .i64 x.b, .int .i64 x.c, .int .i64 x.k] 42) none) []) (by simp)
      have hNa := but_below hN hA
      have hone' := hone (wr.alloc (.cells #[.int .u8 (x.o : Int), .int .i64 x.a, .int .i64 x.b, .int .i64 x.c, .int .i64 x.k] 42)) x hxm hok hJa
      clear hst hbr hJr hN
      go_wp2_with (go_at_call 46; refine hone'.mono ?_)
      rintro e w3 ⟨rfl, hN3, hJ3⟩
      have hb4 := hba.beside hN3 (fun k hk => (hS k hk).2)
      have hN4 : But S w w3 := hNa.trans hN3 (fun x hx _ => hx)
      have hs4 := hN4.size
      have hl1 := sofar_len hx hn hM k
      have hl2 := hx x hxm
      clear hone' hba hNa
      go_wp2_with (go_at_call 39; refine (write_any _ _ _ _ _ hb4 (by omega) hs4).mono ?_)
      rintro e w5 ⟨⟨q, rfl⟩, hb5, B5⟩
      rw [sofar_next HX.out] at hb5
      have hJ5 := hJ _ _ hJ3 B5
      have hN5 := but_below hN4 B5
      go_wp2_with fail
      go_roundw
      case rel => exact ⟨k + 1, by omega, by go_num, hN5, hJ5, hb5⟩
      case measure => simp [intOf]; omega
    · have hlt' : ¬ (k : Int) < (xs.length : Int) := by omega
      have HE := Lib.hid (sofar_all (f := insL) hlt)
      have hs4 := hN.size
      go_wp2_with (go_at_call 41; refine (string_any _ _ _ _ hbr hs4).mono ?_; rintro e w5 ⟨rfl, B5⟩)
      have hJ5 := hJ _ _ hJr B5
      have hN5 := but_below hN B5
      go_wp2_with fail
      go_ret
      exact ⟨ret_s HE.out, hN5, hJ5⟩

set_option maxRecDepth 100000 in
set_option maxHeartbeats 800000 in
theorem putRowCode_any {lo hi : Nat} {v : Value} {xs : List (List In)} (S : List Nat) (J : World → Prop) (pb : Nat) (M : Nat) (w : World) (h : CodesAt lo hi w v xs) (t : hi ≤ w.heap.size) (hn : xs.length ≤ 1000) (hM : M ≤ 100000) (hx : ∀ x ∈ xs, (codeL x).length ≤ M)
    (hS : ∀ k ∈ S, hi ≤ k ∧ k < w.heap.size) (hJ : ∀ W W', J W → Below w.heap.size W W' → J W') (h0 : J w)
    (hone : ∀ (W : World) (x : List In) (ra : Option Addr) (rc : Nat), x ∈ xs → CodeAt lo hi W (.slice ra x.length rc) x → hi ≤ W.heap.size → J W → Calls Tryz.prog 49 #[.slice ra x.length rc, .pointer (some ⟨pb, 0, none⟩)] W fun e W' => e = .returned (.string ⟨(codeL x).toArray⟩) ∧ But S W W' ∧ J W') :
    Calls Tryz.prog 48 #[v, .func (.func 49) #[] #[.pointer (some ⟨pb, 0, none⟩)]] w fun e w' => e = .returned (.string ⟨(rowL codeL xs).toArray⟩) ∧ But S w w' ∧ J w' := by
  obtain ⟨a, c, rfl⟩ := h.slice
  have hw1 : IntKind.u64.wrap (xs.length : Int) = (xs.length : Int) := by rw [IntKind.wrap_u64]; omega
  have hc := fun W => num_any xs.length W (by omega)
  have hb0 := bld_new w
  have hl0 := numL_len10 (u := xs.length) (by omega)
  go_enter Tryz.func48, Tryz.ntmps48
  go_wp2_with (go_at_call 40; refine (hc _).mono ?_; rintro e w1 ⟨rfl, hb1⟩)
  have B1 : Below w.heap.size w w1 := below_next ((Below.refl _ w).alloc (Nat.le_refl _) _) hb1 (Nat.le_refl _)
  have hb2 := hb0.later hb1
  have hsz := B1.size
  clear hb0 hc
  go_wp2_with (go_at_call 39; refine (write_any _ _ _ _ _ hb2 (by simp; omega) hsz).mono ?_)
  rintro e w2 ⟨⟨q, rfl⟩, hb3, B2⟩
  rw [List.nil_append] at hb3
  have HB := (B1.trans B2)
  have HJ := hJ _ _ h0 HB
  have HN : But S w w2 := but_below (But.refl S w) HB
  clear hb2 hsz B1 B2 HB hb1
  go_wp2_with fail
  go_loopw [15] (fun iv wr => ∃ k : Nat, k ≤ xs.length ∧ iv = .int .i64 (k : Int) ∧ But S w wr ∧ J wr ∧ Bld w.heap.size w.heap.size (sofar codeL xs k) wr) (fun iv _ => xs.length - (intOf iv).toNat)
  case atStart => exact ⟨0, Nat.zero_le _, rfl, HN, HJ, by rw [sofar_zero]; exact hb3⟩
  case round =>
    obtain ⟨k, hk, rfl, hN, hJr, hbr⟩ := hrel
    by_cases hlt : k < xs.length
    · have hlt' : (k : Int) < (xs.length : Int) := by omega
      have k0 : (0 : Int) ≤ (k : Int) := by omega
      have hw2 : IntKind.i64.wrap ((k : Int) + 1) = (k : Int) + 1 := by rw [IntKind.wrap_i64]; omega
      have hst := h.stay (but_stay hN t (fun k hk => (hS k hk).1))
      obtain ⟨b, off, ra, rc, x, rfl, -, hbh, hx', c0, hr⟩ := hst.at hlt
      have hxm := List.mem_of_getElem? hx'
      have HX := Lib.hid hx'
      clear hx'
      have hsz := hN.size
      have hJa := hJr
      have hba := hbr
      have hNa := hN
      have hone' := hone wr x ra rc hxm hr (by omega) hJa
      clear hst hbr hJr hN
      go_wp2_with (go_at_call 49; refine hone'.mono ?_)
      rintro e w3 ⟨rfl, hN3, hJ3⟩
      have hb4 := hba.beside hN3 (fun k hk => (hS k hk).2)
      have hN4 : But S w w3 := hNa.trans hN3 (fun x hx _ => hx)
      have hs4 := hN4.size
      have hl1 := sofar_len hx hn hM k
      have hl2 := hx x hxm
      clear hone' hba hNa
      go_wp2_with (go_at_call 39; refine (write_any _ _ _ _ _ hb4 (by omega) hs4).mono ?_)
      rintro e w5 ⟨⟨q, rfl⟩, hb5, B5⟩
      rw [sofar_next HX.out] at hb5
      have hJ5 := hJ _ _ hJ3 B5
      have hN5 := but_below hN4 B5
      go_wp2_with fail
      go_roundw
      case rel => exact ⟨k + 1, by omega, by go_num, hN5, hJ5, hb5⟩
      case measure => simp [intOf]; omega
    · have hlt' : ¬ (k : Int) < (xs.length : Int) := by omega
      have HE := Lib.hid (sofar_all (f := codeL) hlt)
      have hs4 := hN.size
      go_wp2_with (go_at_call 41; refine (string_any _ _ _ _ hbr hs4).mono ?_; rintro e w5 ⟨rfl, B5⟩)
      have hJ5 := hJ _ _ hJr B5
      have hN5 := but_below hN B5
      go_wp2_with fail
      go_ret
      exact ⟨ret_s HE.out, hN5, hJ5⟩
end Go.Proofs.YtakgcienodigpaaGreat
