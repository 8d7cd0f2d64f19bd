/-
  A row of steps, each of which has a row of ints, as it is handed over.
-/
import Derived.Test.YtbjfongjdlankaaUVPlaysM
import Derived.Test.YtbjfongjdlankaaRows
import Derived.ProofKit
import Derived.OpenShut
import Derived.SizedLaws
import Derived.Deep.Slices
namespace Go.Proofs.Ytbjfongjdlankaa
open Go.ChangeShapes Go.WideShapes Go.ChangeAt Go.RowKit Go.Deep

theorem cStep : Try.prog.cellsOf 25 = 3 := by kernel_rfl
theorem cInt : Try.prog.cellsOf 3 = 1 := by kernel_rfl
theorem cInts : Try.prog.cellsOf 23 = 1 := by kernel_rfl
theorem bInt : Try.prog.bytesOf 3 = 8 := by kernel_rfl

theorem weights_mem_all {H : Type} {P : Program} {e : TypeId} : ∀ {ds : List (DataW H)} {d : DataW H}, d ∈ ds → ∀ n ∈ d.weights P e, n ∈ DataW.weightsAll P e ds
  | [], _, hd, _, _ => by cases hd
  | d0 :: r, d, hd, n, hn => by
    simp only [DataW.weightsAll, List.mem_append]
    rcases List.mem_cons.1 hd with rfl | hd
    · exact .inl hn
    · exact .inr (weights_mem_all hd n hn)
theorem add_at {b off : Nat} (j : Nat) : (Addr.mk b off none).add j = ⟨b, off + j, none⟩ := by
  by_cases hj : j = 0
  · subst hj; simp [Addr.add]
  · simp [Addr.add, hj]
section
variable {H : Type} {enc : TypeId × Value → H} {W : World} {n : Nat} {cs : List Value} {x : DataW H × List MemPlace}
set_option maxRecDepth 100000 in
theorem open_ints {v : Value} (h : DataW.trod enc Try.prog W 0 (fun _ => true) true n 23 [v] = some x) :
    ∃ (a : Option Addr) (l : List Int) (kap : Nat), v = .slice a l.length kap ∧ RowA W a l ∧ ((∀ k ∈ x.1.weights Try.prog 23, k ≤ reachBytes) → l.length ≤ 17592186044416) := by
  rcases open_slice1 Try.underlying23 cInt h with ⟨hcs, _⟩ | ⟨a, len, cap, m, n', V, D, Pl, hcs, _, hl, hm, hmm, hx, hel⟩
  · simp at hcs
    exact ⟨none, [], 0, hcs, fun h0 => (by cases h0), fun _ => (by simp)⟩
  · simp at hcs
    have hlm : len ≤ m := by rw [hmm]; split <;> omega
    have key : ∀ i, i < len → ∃ z : Int, W.cell? (a.add i) = some (.int .i64 z) := fun i hi => by
      obtain ⟨h1, h2⟩ := hel i (by omega)
      obtain ⟨z, e, _⟩ := DataW.trod_int Try.underlying3 h2
      simp only [List.cons.injEq, and_true] at e
      exact ⟨z, by rw [h1, e]⟩
    obtain ⟨f, hf⟩ := choose_lt key
    have hlen : ((List.range len).map f).length = len := by simp
    refine ⟨some a, (List.range len).map f, cap, by rw [hlen]; exact hcs, fun h0 => ?_, fun hw => ?_⟩
    · rw [hlen] at h0
      obtain ⟨b, off, spot⟩ := a
      have hc0 := hf 0 h0
      have hspot : spot = none := by simpa [Addr.add] using World.cell?_spot hc0
      subst hspot
      refine ⟨b, off, rfl, fun j hj => ?_⟩
      rw [hlen] at hj
      have := hf j hj
      rw [add_at] at this
      rw [this, atI, List.getElem?_map, List.getElem?_range hj]; rfl
    · rw [hlen]
      rw [hx] at hw
      have := hw ((((List.range len).map D).length + ((List.range (m - len)).map fun j => D (len + j)).length) * Try.prog.bytesOf 3) (by simp [DataW.weights, Try.underlying23])
      rw [bInt, List.length_map, List.length_range] at this
      unfold reachBytes at this
      omega
set_option maxRecDepth 100000 in
theorem open_step (hcs : cs.length = 3) (h : DataW.trod enc Try.prog W 0 (fun _ => true) true n 25 cs = some x) :
    ∃ (d k : Int) (a : Option Addr) (l : List Int) (kap : Nat), cs = [.int .i64 d, .int .i64 k, .slice a l.length kap] ∧ RowA W a l ∧ ((∀ w ∈ x.1.weights Try.prog 25, w ≤ reachBytes) → l.length ≤ 17592186044416) := by
  obtain ⟨ys, m, _, hx, _, hyl, hf⟩ := DataW.trod_struct Try.underlying25 h
  match cs, hcs, ys, hyl, hx, hf with
  | [v0, v1, v2], _, [y0, y1, y2], _, hx, hf =>
    have g0 : DataW.trod enc Try.prog W 0 (fun _ => true) true m 3 (List.take (Try.prog.cellsOf 3) [v0, v1, v2]) = some y0 := hf 0 _ rfl
    rw [cInt, List.take_succ_cons, List.take_zero] at g0
    have g1 : DataW.trod enc Try.prog W 0 (fun _ => true) true m 3 (List.take (Try.prog.cellsOf 3) [v1, v2]) = some y1 := hf 1 _ rfl
    rw [cInt, List.take_succ_cons, List.take_zero] at g1
    have g2 : DataW.trod enc Try.prog W 0 (fun _ => true) true m 23 (List.take (Try.prog.cellsOf 23) [v2]) = some y2 := hf 2 _ rfl
    rw [cInts, List.take_succ_cons, List.take_zero] at g2
    obtain ⟨c0, e0, _⟩ := DataW.trod_int Try.underlying3 g0
    obtain ⟨c1, e1, _⟩ := DataW.trod_int Try.underlying3 g1
    obtain ⟨a, l, kap, rfl, hR, hW⟩ := open_ints g2
    simp only [List.cons.injEq, and_true] at e0 e1
    subst e0 e1
    refine ⟨c0, c1, a, l, kap, rfl, hR, fun hw => hW fun k hk => hw k ?_⟩
    rw [hx]
    simp only [DataW.weights, Try.underlying25]
    exact DataW.weights_mem_each (j := 2) (t := 23) (d := y2.1) rfl rfl k hk
set_option maxRecDepth 100000 in
theorem open_steps {p : Option Addr} {len cap : Nat} {d : DataW H} {q : List MemPlace} (h : DataW.Trod enc Try.prog W 0 (fun _ => true) true 22 (.slice p len cap) d q) (hw : ∀ k ∈ d.weights Try.prog 22, k ≤ reachBytes) : ∃ ss, Steps W p len ss := by
  obtain ⟨fuel, hf⟩ := h
  rcases open_slice Try.underlying22 hf with ⟨hcs, _⟩ | ⟨y, l, c, m, n, D, Pl, hcs, _, hl, hm, hmm, hxd, hx⟩
  · simp [Value.cells] at hcs
    exact ⟨fun _ => ⟨0, 0, []⟩, fun j hj => by omega⟩
  · simp [Value.cells] at hcs
    obtain ⟨rfl, rfl, rfl⟩ := hcs
    have hlm : len ≤ m := by rw [hmm]; split <;> omega
    rw [cStep] at hx
    by_cases h0 : len = 0
    · exact ⟨fun _ => ⟨0, 0, []⟩, fun j hj => by omega⟩
    obtain ⟨b, off, spot⟩ := y
    have hspot : spot = none := by
      obtain ⟨cs, h1, h2⟩ := hx 0 (by omega)
      obtain ⟨_, hlen, hat⟩ := World.cells?_some h1
      obtain ⟨d0, k0, a0, l0, kap0, rfl, -⟩ := open_step hlen h2
      have a1 := hat 0 (by omega)
      simpa [Addr.add] using World.cell?_spot a1
    subst hspot
    have key : ∀ j, j < len → ∃ s : Stp, (∃ b' off', some (Addr.mk b off none) = some ⟨b', off', none⟩ ∧ ∃ a kap, StepAt W b' (off' + j * 3) s a kap) ∧ s.l.length ≤ 17592186044416 := fun j hj => by
      obtain ⟨cs, h1, h2⟩ := hx j (by omega)
      obtain ⟨_, hlen, hat⟩ := World.cells?_some h1
      obtain ⟨d0, k0, a0, l0, kap0, rfl, hR, hW⟩ := open_step hlen h2
      have a1 := hat 0 (by omega)
      have a2 := hat 1 (by omega)
      have a3 := hat 2 (by omega)
      simp only [add_at] at a1 a2 a3
      refine ⟨⟨d0, k0, l0⟩, ⟨b, off, rfl, a0, kap0, ⟨by simpa using a1, by simpa using a2, by simpa using a3, hR⟩⟩, hW fun k hk => hw k ?_⟩
      have hdd : d = .slice ((List.range len).map D) ((List.range (m - len)).map fun j => D (len + j)) := by
        have := congrArg Prod.fst hxd; simpa using this
      rw [hdd]
      simp only [DataW.weights, Try.underlying22, List.mem_cons, List.mem_append]
      exact .inr (.inl (weights_mem_all (List.mem_map.2 ⟨j, List.mem_range.2 hj, rfl⟩) k hk))
    haveI : Inhabited Stp := ⟨⟨0, 0, []⟩⟩
    obtain ⟨f, hf⟩ := choose_lt key
    exact ⟨f, hf⟩
end
end Go.Proofs.Ytbjfongjdlankaa
