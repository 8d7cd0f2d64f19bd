/-
  The reference's cells in memory: a block of a row and a count; the walks of tollbarref04's Has, Peek, set, Read, Write, Add.
-/
import Derived.Test.YtbjfongjdlankaaCBase
namespace Go.Proofs.Ytbjfongjdlankaa
open Go.RowKit

/-- Block C is cells of the reference: these numbers, in block g, and that count. -/
structure RefC (W : World) (C g : Nat) (vs : List Nat) (n : Nat) : Prop where
  head : ∃ cap, W.heap[C]? = some (.cells #[.slice (some ⟨g, 0, none⟩) vs.length cap, .int .u64 (n : Int)] 35 (0, 0)) ∧ W.ownsRow 0 33 1 (.slice (some ⟨g, 0, none⟩) vs.length cap) vs.length (U64 vs)
  all : ∀ x ∈ vs, x < 18446744073709551616
  cnt : n < 18446744073709551616
  len : vs.length ≤ 4096

theorem RefC.ltC {W : World} {C g : Nat} {vs : List Nat} {n : Nat} (h : RefC W C g vs n) : C < W.heap.size := by obtain ⟨_, h, _⟩ := h.head; exact (Array.getElem?_eq_some_iff.1 h).1
theorem RefC.row {W : World} {C g : Nat} {vs : List Nat} {n : Nat} (h : RefC W C g vs n) : ∃ cs z, W.heap[g]? = some (.cells cs 33 z) := by
  obtain ⟨cap, _, h⟩ := h.head
  rcases h.2 with ⟨h0, _⟩ | ⟨g', c, cur, he, _, hb, _⟩
  · cases h0
  · simp only [Value.slice.injEq, Option.some.injEq, Addr.mk.injEq, and_true, true_and] at he
    obtain ⟨rfl, rfl⟩ := he
    exact ⟨_, _, hb⟩
theorem RefC.ltg {W : World} {C g : Nat} {vs : List Nat} {n : Nat} (h : RefC W C g vs n) : g < W.heap.size := by obtain ⟨_, _, h⟩ := h.row; exact (Array.getElem?_eq_some_iff.1 h).1
theorem RefC.but {W W' : World} {C g : Nat} {vs : List Nat} {n : Nat} (h : RefC W C g vs n) {S : List Nat} (hb : But S W W') (h1 : C ∉ S) (h2 : g ∉ S) : RefC W' C g vs n := by
  obtain ⟨cap, k1, k2⟩ := h.head
  exact ⟨⟨cap, (hb.block C h.ltC h1).trans k1, hb.row k2 fun g' e => by simp [Value.ownBlock] at e; exact e ▸ h2⟩, h.all, h.cnt, h.len⟩
theorem RefC.drewN {W : World} {C g : Nat} {vs : List Nat} {n : Nat} (h : RefC W C g vs n) (k : Nat) : RefC (W.drewN k) C g vs n := ⟨h.head, h.all, h.cnt, h.len⟩
theorem RefC.drew {W : World} {C g : Nat} {vs : List Nat} {n : Nat} (h : RefC W C g vs n) : RefC W.drew C g vs n := ⟨h.head, h.all, h.cnt, h.len⟩
theorem RefC.ne {W : World} {C g : Nat} {vs : List Nat} {n : Nat} (h : RefC W C g vs n) : C ≠ g := by
  obtain ⟨_, h1, _⟩ := h.head
  obtain ⟨_, _, h2⟩ := h.row
  rintro rfl
  have := h1.symm.trans h2
  simp at this
theorem RefC.setN {W : World} {C g : Nat} {vs : List Nat} {n m : Nat} (h : RefC W C g vs n) {x : Int} (hx : x = (m : Int)) (hm : m < 18446744073709551616) : RefC (W.setCell ⟨C, 1, none⟩ (.int .u64 x)) C g vs m := by
  subst hx
  obtain ⟨cap, k1, k2⟩ := h.head
  refine ⟨⟨cap, heap_set_same _ k1, ((But.refl [C] W).set (p := ⟨C, 1, none⟩) (.inl (by simp)) _).row k2 fun g' e => ?_⟩, h.all, hm, h.len⟩
  simp [Value.ownBlock] at e
  subst e
  simpa using h.ne.symm

theorem rhas_any {C g : Nat} {vs : List Nat} {n : Nat} (i : Int) (w : World) (h : RefC w C g vs n) (h1 : -9223372036854775808 ≤ i) (h2 : i ≤ 9223372036854775807) :
    Calls Try.prog 55 #[.pointer (some ⟨C, 0, none⟩), .int .i64 i] w fun e w' => e = .returned (.bool (inRow vs.length i)) ∧ w' = w := by
  have hl := h.len
  obtain ⟨cap, k1, -⟩ := h.head
  have hc : w.cell? ⟨C, 0, none⟩ = some (.slice (some ⟨g, 0, none⟩) vs.length cap) := by simp [World.cell?, k1]
  clear h k1
  by_cases h0 : i < 0
  · have t1 : decide (0 ≤ i) = false := by simp; omega
    rw [show inRow vs.length i = false from decide_eq_false (by omega)]
    go_enter Try.func55, Try.ntmps55
    go_wp2_with fail
    go_ret
    exact ⟨rfl, rfl⟩
  · have t1 : 0 ≤ i := by omega
    have t2 : decide (0 ≤ i) = true := decide_eq_true t1
    have hR : Hid (inRow vs.length i = decide (i < (vs.length : Int))) := by unfold inRow; show _ = _; simp [t1]
    go_enter Try.func55, Try.ntmps55
    go_wp2_with fail
    go_ret
    exact ⟨by rw [hR.out]; rfl, rfl⟩

theorem RefC.cellS {W : World} {C g : Nat} {vs : List Nat} {n : Nat} (h : RefC W C g vs n) : ∃ cap, W.cell? ⟨C, 0, none⟩ = some (.slice (some ⟨g, 0, none⟩) vs.length cap) ∧ vs.length ≤ cap := by
  obtain ⟨cap, k1, k2⟩ := h.head
  refine ⟨cap, by simp [World.cell?, k1], ?_⟩
  rcases k2.2 with ⟨h0, _⟩ | ⟨g', c, cur, he, _, hb, hc, _⟩
  · cases h0
  · simp only [Value.slice.injEq] at he; omega
theorem RefC.cellN {W : World} {C g : Nat} {vs : List Nat} {n : Nat} (h : RefC W C g vs n) : W.cell? ⟨C, 1, none⟩ = some (.int .u64 (n : Int)) := by
  obtain ⟨cap, k1, _⟩ := h.head; simp [World.cell?, k1]
theorem RefC.frozen {W : World} {C g : Nat} {vs : List Nat} {n : Nat} (h : RefC W C g vs n) (k : Nat) : W.frozen? ⟨C, k, none⟩ = false := by
  obtain ⟨cap, k1, _⟩ := h.head; simp [World.frozen?, k1]
theorem U64_get {vs : List Nat} {k : Nat} (h : k < vs.length) : (U64 vs)[k]? = some (.int .u64 (nth vs k : Int)) := by simp [U64, nth, List.getElem?_eq_getElem h]
theorem RefC.cellV {W : World} {C g : Nat} {vs : List Nat} {n : Nat} (h : RefC W C g vs n) {k : Nat} (hk : k < vs.length) : W.cell? ⟨g, k, none⟩ = some (.int .u64 (nth vs k : Int)) := by
  obtain ⟨cap, _, k2⟩ := h.head
  rw [k2.cellAt k (by omega), U64_get hk]

theorem rpeek_any {C g : Nat} {vs : List Nat} {n : Nat} (i : Int) (w : World) (h : RefC w C g vs n) (h1 : -9223372036854775808 ≤ i) (h2 : i ≤ 9223372036854775807) :
    Calls Try.prog 57 #[.pointer (some ⟨C, 0, none⟩), .int .i64 i] w fun e w' => e = .returned (.int .u64 (cellAt vs i : Int)) ∧ w' = w := by
  have hcall := rhas_any i w h h1 h2
  have hl := h.len
  cases hi : inRow vs.length i with
  | true =>
    obtain ⟨k, rfl, hk⟩ := inRow_nat hi
    rw [cellAt_nat hk]
    rw [hi] at hcall
    obtain ⟨cap, hc, hcap⟩ := h.cellS
    have hv := h.cellV hk
    clear h hi
    go_enter Try.func57, Try.ntmps57
    go_wp2_with (go_at_call 55; refine hcall.mono ?_; rintro e w' ⟨rfl, rfl⟩)
    go_ret
    exact ⟨rfl, rfl⟩
  | false =>
    rw [cellAt_out hi]
    rw [hi] at hcall
    clear h hi
    go_enter Try.func57, Try.ntmps57
    go_wp2_with (go_at_call 55; refine hcall.mono ?_; rintro e w' ⟨rfl, rfl⟩)
    go_ret
    exact ⟨rfl, rfl⟩

/-- What set leaves. -/
def SetRef (w : World) (C : Nat) (vs : List Nat) (n : Nat) (w' : World) : Prop := ∃ g', RefC w' C g' vs n ∧ w.heap.size ≤ g' ∧ But [C] w w'

theorem rset_any {C g : Nat} {vs : List Nat} {n : Nat} (i y : Nat) (w : World) (h : RefC w C g vs n) (hi : i < vs.length) (hy : y < 18446744073709551616) :
    Calls Try.prog 56 #[.pointer (some ⟨C, 0, none⟩), .int .i64 (i : Int), .int .u64 (y : Int)] w fun e w' => e = .returned (.tuple #[]) ∧ SetRef w C (vs.set i y) n w' := by
  obtain ⟨i0, hI, iz0, iz1, iz2⟩ := info_parts infoU64
  have hl := h.len
  obtain ⟨cap, hc, hcap⟩ := h.cellS
  have hltC := h.ltC
  have hz := h.frozen 0
  obtain ⟨cap', k1, k2⟩ := h.head
  obtain rfl : cap' = cap := by
    have : w.cell? ⟨C, 0, none⟩ = some (.slice (some ⟨g, 0, none⟩) vs.length cap') := by simp [World.cell?, k1]
    rw [hc] at this; simpa using this.symm
  go_enter Try.func56, Try.ntmps56
  go_wp2_with (at_builtin; refine wpList_append_own _ rfl _ _ 32 rfl w.heap.size 33 i0 (.int .u64 0) 1 8 Try.underlying32 hI iz0 iz1 iz2 rfl (by decide) _ 0 [] rfl (World.ownsRow_nil _ _ _ _) ⟨g, 0, none⟩ vs.length cap' (U64 vs) rfl ?c0 ?c1 ?c2 ?c3 ?c4 ?c5 ?_)
  case c0 => rw [U64_len]; omega
  case c1 =>
    intro j u hj
    have hj' : j < vs.length := by have := (List.getElem?_eq_some_iff.mp hj).1; rwa [U64_len] at this
    have := k2.cellAt j (by omega)
    by_cases h0 : j = 0
    · subst h0; simpa [Addr.add] using this.trans hj
    · simpa [Addr.add, h0] using this.trans hj
  case c2 => intro x hx; simp [U64] at hx; obtain ⟨y, _, rfl⟩ := hx; rfl
  case c3 => unfold maxLen; omega
  case c4 => omega
  try (case c5 => first | exact Nat.le_refl _ | omega | (simp; done) | (simp; omega))
  intro v1 w1 hown hgrow _
  obtain ⟨g', c', rfl, hg', hc'⟩ : ∃ g' c', v1 = .slice (some ⟨g', 0, none⟩) vs.length c' ∧ w.heap.size ≤ g' ∧ vs.length ≤ c' := by
    rcases hown.2 with ⟨_, h0⟩ | ⟨g', c, cur, he, hle, _, hcc, _⟩
    · omega
    · exact ⟨g', c, he, hle, hcc⟩
  have hB1 : But [] w w1 := .of_none hgrow []
  have hne : g' ≠ C := by omega
  have hne' := hne.symm
  have d1 : w1.cell? ⟨g', i, none⟩ = some (.int .u64 (nth vs i : Int)) := by rw [hown.cellAt i (by omega), U64_get hi]
  have d2 := hown.frozenAt i
  have d3 := hB1.cell (p := ⟨C, 0, none⟩) hc (by simp)
  have d4 := hB1.frozen (p := ⟨C, 0, none⟩) hz hltC (by simp)
  have k1' := (hB1.block C hltC (by simp)).trans k1
  obtain ⟨s1, -⟩ := hown.stored i (.int .u64 (y : Int))
  have s2 : (w1.setCell ⟨g', i, none⟩ (.int .u64 (y : Int))).heap[C]? = _ := (Below.heap_setCell w1 ⟨g', i, none⟩ (.int .u64 (y : Int)) C hne').trans k1'
  have s3 := heap_set_same (k := 0) (.slice (some ⟨g', 0, none⟩) vs.length c') s2
  have K3 := Lib.hid s3
  have hall := h.all
  have hcnt := h.cnt
  clear k1 k2 k1' s2 s3 h hown hc hz hgrow
  go_wp2_with fail
  go_end0
  refine ⟨rfl, g', ⟨⟨c', by rw [List.length_set]; exact K3.out, ?_⟩, fun x hx => mem_set hall hy hx, hcnt, by rw [List.length_set]; exact hl⟩, hg', ?_⟩
  · rw [List.length_set, show U64 (vs.set i y) = (U64 vs).set i (.int .u64 (y : Int)) by simp [U64, List.map_set]]
    have s4 := ((But.refl [C] (w1.setCell ⟨g', i, none⟩ (.int .u64 (y : Int)))).set (p := ⟨C, 0, none⟩) (.inl (by simp)) (.slice (some ⟨g', 0, none⟩) vs.length c')).row s1 (fun g2 e => by
      simp [Value.ownBlock] at e; subst e; simpa using hne)
    exact ⟨s4.1, s4.2.imp id fun ⟨a, b, d, e1, _, r⟩ => ⟨a, b, d, e1, Nat.zero_le _, r⟩⟩
  · exact (((hB1.mono (by simp)).set (S := [C]) (p := ⟨g', i, none⟩) (.inr hg') _)).set (p := ⟨C, 0, none⟩) (.inl (by simp)) _
end Go.Proofs.Ytbjfongjdlankaa
