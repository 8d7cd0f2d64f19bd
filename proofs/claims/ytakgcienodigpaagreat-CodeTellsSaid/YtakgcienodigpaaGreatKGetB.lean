/-
  The walks of readerOf and its closures; what reads a capacity, a register, a channel, a flag.
-/
import Derived.Test.YtakgcienodigpaaGreatKGetA
namespace Go.Proofs.YtakgcienodigpaaGreat
open Go.RowKit Oct

theorem blk_type {W : World} {B : Nat} {t u : TypeId} {cs ds : Array Value} (h : Blk W B t cs) (k : Blk W B u ds) : t = u := by
  unfold Blk at h k
  rw [h] at k
  simp only [Option.some.injEq, Obj.cells.injEq] at k
  exact k.2.1
theorem blk_ne {W : World} {B C : Nat} {t u : TypeId} {cs ds : Array Value} (h : Blk W B t cs) (k : Blk W C u ds) (htu : t ≠ u) : B ≠ C := by
  rintro rfl
  exact htu (blk_type h k)
theorem map_apart {W : World} {kb M B : Nat} {t : TypeId} {cs : Array Value} (h : Nmr W kb M) (k : Blk W B t cs) : B ≠ M := by
  rintro rfl
  obtain ⟨g, h1, _⟩ := h.map
  obtain ⟨es, clock, h2⟩ := h1.is
  unfold Blk at k
  rw [h2] at k
  cases k
theorem Rdr.put {W W' : World} {pb Bs kb M : Nat} {s r : List UInt8} (h : Rdr W pb Bs kb M s) (hS : StrB W' Bs r) (hb : But [Bs] W W') (hr : r.length ≤ s.length) : Rdr W' pb Bs kb M r := by
  have n1 : pb ≠ Bs := blk_ne h.pp h.st (by decide)
  have n2 : kb ≠ Bs := blk_ne h.nm.box h.st (by decide)
  have n3 : M ≠ Bs := (map_apart h.nm h.st).symm
  exact ⟨(hb.block pb h.pp.lt (by simpa using n1)).trans h.pp, hS, ⟨(hb.block kb h.nm.box.lt (by simpa using n2)).trans h.nm.box, h.nm.map.of_block (hb.block M h.nm.lt.2 (by simpa using n3))⟩, Nat.le_trans hr h.sz⟩
theorem rest_le {s r : List UInt8} {u : Nat} (h : getR s = (u, r, 0)) : r.length ≤ s.length := by
  have := congrArg List.length (getR_back h).1
  rw [List.length_append] at this
  omega
theorem rdN_none {m : Nat} {s : List UInt8} {u : Nat} {r : List UInt8} {n : Nat} (h : getR s = (u, r, n)) (hn : n ≠ 0 ∨ ¬ u ≤ m) : rdN m s = none := by
  unfold rdN
  rw [h, if_neg]
  rintro ⟨h1, h2⟩
  rcases hn with hn | hn
  · exact hn h1
  · exact hn h2

set_option maxRecDepth 100000 in
set_option maxHeartbeats 800000 in
theorem number_any (m pb Bs kb M : Nat) (s : List UInt8) (hm : m ≤ 1000) (w : World) (h : Rdr w pb Bs kb M s) :
    Calls Tryz.prog 55 #[.int .i64 (m : Int), .pointer (some ⟨pb, 0, none⟩)] w (GetPost w pb Bs kb M (fun _ v (x : Nat) => v = .int .i64 (x : Int)) (rdN m s)) := by
  have hp := h.pp.cell (k := 0) rfl
  have hw1 : IntKind.u64.wrap (m : Int) = (m : Int) := by rw [IntKind.wrap_u64]; omega
  obtain ⟨u, r, n, hg⟩ : ∃ u r n, getR s = (u, r, n) := ⟨_, _, _, rfl⟩
  by_cases hn : n = 0
  · subst hn
    have hc := next64_ok Bs u s r w h.st h.sz hg
    have hr := rest_le hg
    by_cases hu : u ≤ m
    · have HO := Lib.hid (rdN_some.2 ⟨hg, hu⟩)
      have hu' : (u : Int) ≤ (m : Int) := by omega
      have hw2 : IntKind.i64.wrap (u : Int) = (u : Int) := by rw [IntKind.wrap_i64]; omega
      have hnt := fun W => cneed_true W
      clear hg
      go_enter Tryz.func55, Tryz.ntmps55
      go_wp2_with fail
      refine hc.mono ?_
      rintro e w1 ⟨rfl, hS, hb⟩
      have hR := h.put hS hb hr
      clear hc hp
      go_wp2_with (go_at_call 30; refine (hnt _).mono ?_; rintro e w2 ⟨rfl, rfl⟩)
      go_ret
      exact post_ok HO.out rfl (hb.mono (by simp)) hR
    · have HO := Lib.hid (rdN_none hg (.inr hu))
      have hu' : ¬ (u : Int) ≤ (m : Int) := by omega
      have hud : decide ((u : Int) ≤ (m : Int)) = false := by simpa using hu
      have hnt := fun W => cneed_false W
      clear hg
      go_enter Tryz.func55, Tryz.ntmps55
      go_wp2_with fail
      refine hc.mono ?_
      rintro e w1 ⟨rfl, hS, hb⟩
      clear hc hp
      go_wp2_with (go_at_call 30; refine (hnt _).mono ?_; rintro e w2 ⟨rfl, rfl⟩)
      exact ⟨rfl, post_bad HO.out (hb.mono (by simp)) hS⟩
  · have hc := next64_bad Bs u n s r w h.st h.sz hg hn
    have HO := Lib.hid (rdN_none (m := m) hg (.inl hn))
    clear hg hn
    go_enter Tryz.func55, Tryz.ntmps55
    go_wp2_with fail
    refine hc.mono ?_
    rintro e w1 ⟨rfl, hS, hb⟩
    exact ⟨rfl, post_bad HO.out (hb.mono (by simp)) hS⟩
theorem rdI_none {s : List UInt8} {u : Nat} {r : List UInt8} {n : Nat} (h : getR s = (u, r, n)) (hn : n ≠ 0) : rdI s = none := by
  unfold rdI
  rw [h, if_neg hn]
set_option maxRecDepth 100000 in
set_option maxHeartbeats 800000 in
theorem signed_any (pb Bs kb M : Nat) (s : List UInt8) (w : World) (h : Rdr w pb Bs kb M s) :
    Calls Tryz.prog 58 #[.pointer (some ⟨pb, 0, none⟩)] w (GetPost w pb Bs kb M (fun _ v (x : Int) => v = .int .i64 x) (rdI s)) := by
  have hp := h.pp.cell (k := 0) rfl
  obtain ⟨u, r, n, hg⟩ : ∃ u r n, getR s = (u, r, n) := ⟨_, _, _, rfl⟩
  by_cases hn : n = 0
  · subst hn
    have hc := nextI_ok Bs u s r w h.st h.sz hg
    have hr := rest_le hg
    have HO := Lib.hid (rdI_some.2 ⟨u, hg, rfl⟩)
    clear hg
    go_enter Tryz.func58, Tryz.ntmps58
    go_wp2_with fail
    refine hc.mono ?_
    rintro e w1 ⟨rfl, hS, hb⟩
    have hR := h.put hS hb hr
    clear hc hp
    go_wp2_with fail
    go_ret
    exact post_ok HO.out rfl (hb.mono (by simp)) hR
  · have hc := nextI_bad Bs u n s r w h.st h.sz hg hn
    have HO := Lib.hid (rdI_none hg hn)
    clear hg hn
    go_enter Tryz.func58, Tryz.ntmps58
    go_wp2_with fail
    refine hc.mono ?_
    rintro e w1 ⟨rfl, hS, hb⟩
    exact ⟨rfl, post_bad HO.out (hb.mono (by simp)) hS⟩

/-! ### One thing that has one number -/
abbrev F1 (pb : Nat) : Value := .func (.func 55) #[] #[.pointer (some ⟨pb, 0, none⟩)]
abbrev F2 (pb : Nat) : Value := .func (.func 58) #[] #[.pointer (some ⟨pb, 0, none⟩)]
abbrev F3 (kb : Nat) : Value := .func (.func 75) #[] #[.pointer (some ⟨kb, 0, none⟩)]
/-- A box of a reader. -/
theorem rbox {w : World} {pb Bs kb M : Nat} {s : List UInt8} (h : Rdr w pb Bs kb M s) :
    Rdr (w.alloc (.cells #[F1 pb, F2 pb, F3 kb] 61)) pb Bs kb M s ∧ Blk (w.alloc (.cells #[F1 pb, F2 pb, F3 kb] 61)) w.heap.size 61 #[F1 pb, F2 pb, F3 kb] ∧ RBut Bs M w (w.alloc (.cells #[F1 pb, F2 pb, F3 kb] 61)) :=
  ⟨h.later ((Below.refl _ w).alloc (Nat.le_refl _) _) (Nat.le_refl _), blk_new w _ _, (But.refl _ w).alloc _⟩
theorem rdZ_map {m : Nat} {s : List UInt8} {x : Nat} {r : List UInt8} (h : rdN m s = some (x, r)) : rdZ m s = some ((x : Int), r) := by simp [rdZ, h]
theorem rdZ_none {m : Nat} {s : List UInt8} (h : rdN m s = none) : rdZ m s = none := by simp [rdZ, h]

set_option maxRecDepth 100000 in
theorem getCapacity_any (pb Bs kb M : Nat) (s : List UInt8) (w : World) (h : Rdr w pb Bs kb M s) :
    Calls Tryz.prog 25 #[.agg #[F1 pb, F2 pb, F3 kb]] w (GetPost w pb Bs kb M (fun _ v (x : Int) => v = .int .i64 x) (rdZ 8 s)) := by
  obtain ⟨hR, hB, hb0⟩ := rbox h
  have c0 := hB.cell (k := 0) rfl
  have hc := number_any 8 pb Bs kb M s (by omega) _ hR
  cases ho : rdN 8 s with
  | none =>
    have hc := get_bad hc ho
    have HO := Lib.hid (rdZ_none ho)
    clear ho
    go_enter Tryz.func25, Tryz.ntmps25
    go_wp2_with fail
    refine hc.mono ?_
    rintro e w1 ⟨rfl, hb, s', hS⟩
    exact ⟨rfl, post_bad HO.out (hb0.next hb) hS⟩
  | some p =>
    obtain ⟨x, r⟩ := p
    have hc := get_ok hc ho
    have HO := Lib.hid (rdZ_map ho)
    clear ho
    go_enter Tryz.func25, Tryz.ntmps25
    go_wp2_with fail
    refine hc.mono ?_
    rintro e w1 ⟨v, rfl, rfl, hb, hR1⟩
    clear hc
    go_wp2_with fail
    go_ret
    exact post_ok HO.out rfl (hb0.next hb) hR1

set_option maxRecDepth 100000 in
theorem getRegister_any (pb Bs kb M : Nat) (s : List UInt8) (w : World) (h : Rdr w pb Bs kb M s) :
    Calls Tryz.prog 84 #[.agg #[F1 pb, F2 pb, F3 kb]] w (GetPost w pb Bs kb M (fun _ v (x : Int) => v = .int .i64 x) (rdZ 7 s)) := by
  obtain ⟨hR, hB, hb0⟩ := rbox h
  have c0 := hB.cell (k := 0) rfl
  have hc := number_any 7 pb Bs kb M s (by omega) _ hR
  cases ho : rdN 7 s with
  | none =>
    have hc := get_bad hc ho
    have HO := Lib.hid (rdZ_none ho)
    clear ho
    go_enter Tryz.func84, Tryz.ntmps84
    go_wp2_with fail
    refine hc.mono ?_
    rintro e w1 ⟨rfl, hb, s', hS⟩
    exact ⟨rfl, post_bad HO.out (hb0.next hb) hS⟩
  | some p =>
    obtain ⟨x, r⟩ := p
    have hc := get_ok hc ho
    have HO := Lib.hid (rdZ_map ho)
    clear ho
    go_enter Tryz.func84, Tryz.ntmps84
    go_wp2_with fail
    refine hc.mono ?_
    rintro e w1 ⟨v, rfl, rfl, hb, hR1⟩
    clear hc
    go_wp2_with fail
    go_ret
    exact post_ok HO.out rfl (hb0.next hb) hR1

set_option maxRecDepth 100000 in
theorem getChannel_any (pb Bs kb M : Nat) (s : List UInt8) (w : World) (h : Rdr w pb Bs kb M s) :
    Calls Tryz.prog 83 #[.agg #[F1 pb, F2 pb, F3 kb]] w (GetPost w pb Bs kb M (fun _ v (x : Int) => v = .int .i64 x) (rdC s)) := by
  obtain ⟨hR, hB, hb0⟩ := rbox h
  have c0 := hB.cell (k := 0) rfl
  have hc := number_any 6 pb Bs kb M s (by omega) _ hR
  cases ho : rdN 6 s with
  | none =>
    have hc := get_bad hc ho
    have HO := Lib.hid ((by simp [rdC, ho] : rdC s = none))
    clear ho
    go_enter Tryz.func83, Tryz.ntmps83
    go_wp2_with fail
    refine hc.mono ?_
    rintro e w1 ⟨rfl, hb, s', hS⟩
    exact ⟨rfl, post_bad HO.out (hb0.next hb) hS⟩
  | some p =>
    obtain ⟨x, r⟩ := p
    have hc := get_ok hc ho
    have hx := (rdN_some.1 ho).2
    have hw1 : IntKind.i64.wrap ((x : Int) - 1) = (x : Int) - 1 := by rw [IntKind.wrap_i64]; omega
    have HO := Lib.hid ((by simp [rdC, ho] : rdC s = some ((x : Int) - 1, r)))
    clear ho
    go_enter Tryz.func83, Tryz.ntmps83
    go_wp2_with fail
    refine hc.mono ?_
    rintro e w1 ⟨v, rfl, rfl, hb, hR1⟩
    clear hc
    go_wp2_with fail
    go_ret
    exact post_ok HO.out rfl (hb0.next hb) hR1

set_option maxRecDepth 100000 in
theorem getFlag_any (pb Bs kb M : Nat) (s : List UInt8) (w : World) (h : Rdr w pb Bs kb M s) :
    Calls Tryz.prog 61 #[.agg #[F1 pb, F2 pb, F3 kb]] w (GetPost w pb Bs kb M (fun _ v (x : Bool) => v = .bool x) (rdF s)) := by
  obtain ⟨hR, hB, hb0⟩ := rbox h
  have c0 := hB.cell (k := 0) rfl
  have hc := number_any 1 pb Bs kb M s (by omega) _ hR
  cases ho : rdN 1 s with
  | none =>
    have hc := get_bad hc ho
    have HO := Lib.hid ((by simp [rdF, ho] : rdF s = none))
    clear ho
    go_enter Tryz.func61, Tryz.ntmps61
    go_wp2_with fail
    refine hc.mono ?_
    rintro e w1 ⟨rfl, hb, s', hS⟩
    exact ⟨rfl, post_bad HO.out (hb0.next hb) hS⟩
  | some p =>
    obtain ⟨x, r⟩ := p
    have hc := get_ok hc ho
    have hx := (rdN_some.1 ho).2
    have hx1 : ((x : Int) == 1) = (x == 1) := by rcases (by omega : x = 0 ∨ x = 1) with rfl | rfl <;> rfl
    have HO := Lib.hid ((by simp [rdF, ho] : rdF s = some (x == 1, r)))
    clear ho
    go_enter Tryz.func61, Tryz.ntmps61
    go_wp2_with fail
    refine hc.mono ?_
    rintro e w1 ⟨v, rfl, rfl, hb, hR1⟩
    clear hc
    go_wp2_with fail
    go_ret
    exact post_ok HO.out rfl (hb0.next hb) hR1
end Go.Proofs.YtakgcienodigpaaGreat
