/-
  A channel and the document's, side by side: each step of both; rows of steps.
-/
import Derived.Test.YtkpnkhakjgfgfaaPLRef
namespace Go.Proofs.Ytkpnkhakjgfgfaa
open Go.RowKit
open Lq (But I64b)

structure Twin (w0 W : World) (p : Pl) (q : Pr) (h : Hs) : Prop where
  ch : Hch W p h
  ref : RefH W q h
  but : But [] w0 W
  op : ∀ x ∈ p.all, w0.heap.size ≤ x
  oq : ∀ x ∈ q.all, w0.heap.size ≤ x
/-- The channel has done its step, the document's not yet. -/
structure HalfT (w0 W : World) (p : Pl) (q : Pr) (h h' : Hs) : Prop where
  ch : Hch W p h'
  ref : RefH W q h
  but : But [] w0 W
  op : ∀ x ∈ p.all, w0.heap.size ≤ x
  oq : ∀ x ∈ q.all, w0.heap.size ≤ x
  len : h.b.length ≤ h.m ∧ h.m ≤ 8
  nd : ∀ send, (h.q send).Nodup ∧ (h.q send).length ≤ 1024
section
variable {w0 W W' : World} {p : Pl} {q : Pr} {h h' : Hs}
theorem Twin.fresh (T : Twin w0 W p q h) (hb : But [] W W') : Twin w0 W' p q h := ⟨T.ch.fresh hb, T.ref.fresh hb, T.but.next hb, T.op, T.oq⟩
theorem Twin.drew (T : Twin w0 W p q h) : Twin w0 W.drew p q h := T.fresh (Lq.But.refl [] W).drew
theorem HalfT.fresh (T : HalfT w0 W p q h h') (hb : But [] W W') : HalfT w0 W' p q h h' := ⟨T.ch.fresh hb, T.ref.fresh hb, T.but.next hb, T.op, T.oq, T.len, T.nd⟩
theorem HalfT.drew (T : HalfT w0 W p q h h') : HalfT w0 W.drew p q h h' := T.fresh (Lq.But.refl [] W).drew
theorem Twin.half (T : Twin w0 W p q h) (H : Hch W' p h') (hb : But p.all W W') : HalfT w0 W' p q h h' := by
  refine ⟨H, T.ref.beside T.ch hb, T.but.own hb T.op, T.op, T.oq, ?_, fun send => ⟨(T.ch.que send).nd, (T.ch.que send).le⟩⟩
  obtain ⟨vs, f, _, _, _, h1, h2⟩ := T.ch.ring
  exact ⟨h1, h2⟩
theorem HalfT.whole (T : HalfT w0 W p q h h') (K : RefH W' q h') (hb : But q.all W W') : Twin w0 W' p q h' := ⟨T.ch.beside T.ref hb, K, T.but.own hb T.oq, T.op, T.oq⟩

theorem t_put (v : Int) (T : Twin w0 W p q h) : Calls Try.prog 19 #[ptrO p.C, .int .i64 v] W fun e w' => ∃ x : Int, e = .returned (.int .i64 x) ∧ HalfT w0 w' p q h (h.setB (Rg.putL h.m h.b v)) ∧ But p.all W w' := by
  refine (hput_any v W T.ch).mono ?_
  rintro e w' ⟨rfl, h1, h2⟩
  exact ⟨_, rfl, T.half h1 h2, h2⟩
theorem u_put (v : Int) (T : HalfT w0 W p q h (h.setB (Rg.putL h.m h.b v))) : Calls Try.prog 20 #[ptrO q.R, .int .i64 v] W fun e w' => ∃ x : Int, e = .returned (.int .i64 x) ∧ Twin w0 w' p q (h.setB (Rg.putL h.m h.b v)) ∧ But q.all W w' := by
  refine (Rg.rput_ring v W T.ref.ring T.len.1 (by have := T.len.2; omega)).mono ?_
  rintro e w' ⟨rfl, h1, h2⟩
  have hb : But [q.R] W w' := but_grown h2
  have hq : But q.all W w' := hb.mono (by simp [Pr.all])
  exact ⟨_, rfl, T.whole (T.ref.turnB h1 hb) hq, hq⟩
theorem t_take (T : Twin w0 W p q h) : Calls Try.prog 21 #[ptrO p.C] W fun e w' => ∃ x y : Int, e = .returned (.tuple #[.int .i64 x, .int .i64 y]) ∧ HalfT w0 w' p q h (h.setB h.b.tail) ∧ But p.all W w' := by
  refine (htake_any W T.ch).mono ?_
  rintro e w' ⟨rfl, h1, h2⟩
  exact ⟨_, _, rfl, T.half h1 h2, h2⟩
theorem u_take (T : HalfT w0 W p q h (h.setB h.b.tail)) : Calls Try.prog 22 #[ptrO q.R] W fun e w' => ∃ x y : Int, e = .returned (.tuple #[.int .i64 x, .int .i64 y]) ∧ Twin w0 w' p q (h.setB h.b.tail) ∧ But q.all W w' := by
  refine (Rg.rtake_ring W T.ref.ring (by have := T.len; omega)).mono ?_
  rintro e w' ⟨rfl, h1, h2⟩
  have hb : But [q.R] W w' := but_grown h2
  have hq : But q.all W w' := hb.mono (by simp [Pr.all])
  exact ⟨_, _, rfl, T.whole (T.ref.turnB h1 hb) hq, hq⟩
theorem t_enq (send : Bool) (i : Int) (T : Twin w0 W p q h) : Calls Try.prog 16 #[ptrO p.C, .bool send, .int .i64 i] W fun e w' => ∃ x : Int, e = .returned (.int .i64 x) ∧ HalfT w0 w' p q h (h.setQ send (Lq.putX (h.q send) i)) ∧ But p.all W w' := by
  refine (henq_any send i W T.ch).mono ?_
  rintro e w' ⟨rfl, h1, h2⟩
  exact ⟨_, rfl, T.half h1 h2, h2⟩
theorem q_mem (q : Pr) (send : Bool) : q.q send ∈ q.all := by cases send <;> simp [Pr.q, Pr.all]
theorem u_enq (send : Bool) (i : Int) (T : HalfT w0 W p q h (h.setQ send (Lq.putX (h.q send) i))) : Calls Try.prog 24 #[ptrO (q.q send), .int .i64 i] W fun e w' => ∃ x : Int, e = .returned (.int .i64 x) ∧ Twin w0 w' p q (h.setQ send (Lq.putX (h.q send) i)) ∧ But q.all W w' := by
  refine (Lq.rput_any i W (T.ref.que send) (T.nd send).2).mono ?_
  rintro e w' ⟨rfl, h1, hb⟩
  have hq : But q.all W w' := hb.mono (fun x hx => by rw [List.mem_singleton.1 hx]; exact q_mem q send)
  exact ⟨_, rfl, T.whole (T.ref.turnQ h1 hb) hq, hq⟩
theorem t_deq (send : Bool) (i : Int) (hi : I64b i) (T : Twin w0 W p q h) : Calls Try.prog 25 #[ptrO p.C, .bool send, .int .i64 i] W fun e w' => ∃ x : Int, e = .returned (.int .i64 x) ∧ HalfT w0 w' p q h (h.setQ send ((h.q send).erase i)) ∧ But p.all W w' := by
  refine (hdeq_any send i hi W T.ch).mono ?_
  rintro e w' ⟨rfl, h1, h2⟩
  exact ⟨_, rfl, T.half h1 h2, h2⟩
theorem u_deq (send : Bool) (i : Int) (T : HalfT w0 W p q h (h.setQ send ((h.q send).erase i))) : Calls Try.prog 26 #[ptrO (q.q send), .int .i64 i] W fun e w' => ∃ x : Int, e = .returned (.int .i64 x) ∧ Twin w0 w' p q (h.setQ send ((h.q send).erase i)) ∧ But q.all W w' := by
  refine (Lq.rdrop_any i W (T.ref.que send) (T.nd send).1 (T.nd send).2).mono ?_
  rintro e w' ⟨rfl, h1, hb⟩
  have hq : But q.all W w' := hb.mono (fun x hx => by rw [List.mem_singleton.1 hx]; exact q_mem q send)
  exact ⟨_, rfl, T.whole (T.ref.turnQ h1 hb) hq, hq⟩
theorem t_shut (T : Twin w0 W p q h) : Calls Try.prog 17 #[ptrO p.C] W fun e w' => ∃ x : Int, e = .returned (.int .i64 x) ∧ HalfT w0 w' p q h h.shut ∧ But p.all W w' := by
  refine (hshut_any W T.ch).mono ?_
  rintro e w' ⟨rfl, h1, h2⟩
  exact ⟨_, rfl, T.half h1 h2, h2⟩
theorem u_shut (T : HalfT w0 W p q h h.shut) : Calls Try.prog 27 #[ptrO q.D] W fun e w' => ∃ x : Int, e = .returned (.int .i64 x) ∧ Twin w0 w' p q h.shut ∧ But q.all W w' := by
  refine (close_any W T.ref).mono ?_
  rintro e w' ⟨rfl, h1, hb⟩
  exact ⟨_, rfl, T.whole h1 hb, hb⟩
end

/-! ### Steps of layer 22: what is done, by which queue, which slot, which value -/
structure St where
  d : Int
  s : Bool
  i : Int
  v : Int
def StepAt (W : World) (b off j : Nat) (x : St) : Prop :=
  W.cell? ⟨b, off + j * 4, none⟩ = some (.int .i64 x.d) ∧ W.cell? ⟨b, off + j * 4 + 1, none⟩ = some (.bool x.s) ∧ W.cell? ⟨b, off + j * 4 + 2, none⟩ = some (.int .i64 x.i) ∧ W.cell? ⟨b, off + j * 4 + 3, none⟩ = some (.int .i64 x.v) ∧ I64b x.i
/-- The value v is a row of these steps. -/
def Steps (w : World) (v : Value) (ss : List St) : Prop :=
  (ss = [] ∧ ∃ a c, v = .slice a 0 c) ∨ ∃ b off c, v = .slice (some ⟨b, off, none⟩) ss.length c ∧ 0 < ss.length ∧ b < w.heap.size ∧ ∀ j, j < ss.length → StepAt w b off j (ss[j]?.getD ⟨0, false, 0, 0⟩)
theorem Steps.slice {w : World} {v : Value} {ss : List St} (h : Steps w v ss) : ∃ a c, v = .slice a ss.length c := by
  rcases h with ⟨rfl, a, c, rfl⟩ | ⟨b, off, c, rfl, _⟩
  · exact ⟨a, c, rfl⟩
  · exact ⟨_, c, rfl⟩
theorem Steps.at {w : World} {a : Option Addr} {n c : Nat} {ss : List St} (h : Steps w (.slice a n c) ss) {k : Nat} (hk : k < ss.length) : ∃ (b off : Nat) (x : St), a = some ⟨b, off, none⟩ ∧
    (∀ W, But [] w W → W.cell? ⟨b, off + k * 4, none⟩ = some (.int .i64 x.d)) ∧ (∀ W, But [] w W → W.cell? ⟨b, off + k * 4 + 1, none⟩ = some (.bool x.s)) ∧
    (∀ W, But [] w W → W.cell? ⟨b, off + k * 4 + 2, none⟩ = some (.int .i64 x.i)) ∧ (∀ W, But [] w W → W.cell? ⟨b, off + k * 4 + 3, none⟩ = some (.int .i64 x.v)) ∧ I64b x.i := by
  rcases h with ⟨rfl, _⟩ | ⟨b, off, c', he, _, _, hc⟩
  · simp at hk
  · simp only [Value.slice.injEq] at he
    obtain ⟨rfl, -, -⟩ := he
    obtain ⟨h1, h2, h3, h4, h5⟩ := hc k hk
    exact ⟨b, off, _, rfl, fun W hb => hb.cell h1 (by simp), fun W hb => hb.cell h2 (by simp), fun W hb => hb.cell h3 (by simp), fun W hb => hb.cell h4 (by simp), h5⟩
end Go.Proofs.Ytkpnkhakjgfgfaa
