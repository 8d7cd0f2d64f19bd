/-
  A channel in memory: a block of pointers to its buffer and two queues; what it is as a pure state; pure.
-/
import Derived.Test.YtkpnkhakjgfgfaaRPut
import Derived.Test.YtkpnkhakjgfgfaaLAll
import Derived.Test.YtkpnkhakjgfgfaaLAlive
namespace Go.Proofs.Ytkpnkhakjgfgfaa
open Go.RowKit
open Lq (But I64b type_ne map_ne)

/-- What a channel is: how much its buffer holds at most, whether it is closed, its values, who waits to send, who to receive. -/
structure Hs where
  m : Nat
  c : Bool
  b : List Int
  s : List Int
  r : List Int
def Hs.q (h : Hs) (send : Bool) : List Int := if send then h.s else h.r
def Hs.setB (h : Hs) (b : List Int) : Hs := ⟨h.m, h.c, b, h.s, h.r⟩
def Hs.setQ (h : Hs) (send : Bool) (xs : List Int) : Hs := if send then ⟨h.m, h.c, h.b, xs, h.r⟩ else ⟨h.m, h.c, h.b, h.s, xs⟩
def Hs.shut (h : Hs) : Hs := ⟨h.m, true, h.b, h.s, h.r⟩
def Hs.new (m : Nat) : Hs := ⟨m, false, [], [], []⟩

/-- Where its parts lie: its own block, its buffer's, its queues' and their maps'. -/
structure Pl where
  C : Nat
  R : Nat
  S : Nat
  M : Nat
  T : Nat
  N : Nat
def Pl.all (p : Pl) : List Nat := [p.C, p.R, p.S, p.M, p.T, p.N]
def Pl.q (p : Pl) (send : Bool) : Nat := if send then p.S else p.T
def Pl.n (p : Pl) (send : Bool) : Nat := if send then p.M else p.N

abbrev ptrO (B : Nat) : Value := .pointer (some ⟨B, 0, none⟩)

/-- In memory the channel at p is h. -/
structure Hch (W : World) (p : Pl) (h : Hs) : Prop where
  head : W.heap[p.C]? = some (.cells #[ptrO p.R, ptrO p.S, ptrO p.T, .bool h.c] 84 (0, 0))
  ring : Rg.Rng W p.R h.m h.b
  qs : Lq.Que W p.S p.M h.s
  qr : Lq.Que W p.T p.N h.r
  ne : p.S ≠ p.T
  nm : p.M ≠ p.N

theorem But.both {S T : List Nat} {a b c : World} (h : But S a b) (k : But T b c) : But (S ++ T) a c := (h.mono (by simp_all)).next (k.mono (by simp_all))
theorem But.of_grown {w w' : World} {B : Nat} (h : w.grownBy w' (some B)) : But [B] w w' := Lq.But.of_some h (by simp)
section
variable {W W' : World} {p : Pl} {h : Hs}
theorem Hch.ltC (H : Hch W p h) : p.C < W.heap.size := (Array.getElem?_eq_some_iff.1 H.head).1
theorem Hch.raw (H : Hch W p h) : ∃ cs, W.heap[p.R]? = some (.cells cs 96 (0, 0)) := by obtain ⟨vs, f, hr, _⟩ := H.ring; exact ⟨_, hr.2⟩
theorem Hch.CR (H : Hch W p h) : p.C ≠ p.R := by obtain ⟨cs, hr⟩ := H.raw; exact type_ne H.head hr (by decide)
theorem Hch.CS (H : Hch W p h) : p.C ≠ p.S := by obtain ⟨cs, z, hr⟩ := H.qs.head; exact type_ne H.head hr (by decide)
theorem Hch.CT (H : Hch W p h) : p.C ≠ p.T := by obtain ⟨cs, z, hr⟩ := H.qr.head; exact type_ne H.head hr (by decide)
theorem Hch.RS (H : Hch W p h) : p.R ≠ p.S := by obtain ⟨cs, z, hr⟩ := H.qs.head; obtain ⟨ds, hs⟩ := H.raw; exact type_ne hs hr (by decide)
theorem Hch.RT (H : Hch W p h) : p.R ≠ p.T := by obtain ⟨cs, z, hr⟩ := H.qr.head; obtain ⟨ds, hs⟩ := H.raw; exact type_ne hs hr (by decide)
theorem not_map {k B : Nat} {cs : Array Value} {t : TypeId} {z : Nat × Nat} {es : Array _} {c : _} (h : W.heap[B]? = some (.cells cs t z)) (hm : W.heap[k]? = some (.map es c)) : B ≠ k := by
  rintro rfl
  rw [h] at hm
  cases hm
theorem Hch.CM (H : Hch W p h) : p.C ≠ p.M := by obtain ⟨es, c, hm⟩ := H.qs.map; exact not_map H.head hm
theorem Hch.CN (H : Hch W p h) : p.C ≠ p.N := by obtain ⟨es, c, hm⟩ := H.qr.map; exact not_map H.head hm
theorem Hch.RM (H : Hch W p h) : p.R ≠ p.M := by obtain ⟨es, c, hm⟩ := H.qs.map; obtain ⟨ds, hs⟩ := H.raw; exact not_map hs hm
theorem Hch.RN (H : Hch W p h) : p.R ≠ p.N := by obtain ⟨es, c, hm⟩ := H.qr.map; obtain ⟨ds, hs⟩ := H.raw; exact not_map hs hm
theorem Hch.SN (H : Hch W p h) : p.S ≠ p.N := by obtain ⟨es, c, hm⟩ := H.qr.map; obtain ⟨ds, z, hs⟩ := H.qs.head; exact not_map hs hm
theorem Hch.TM (H : Hch W p h) : p.T ≠ p.M := by obtain ⟨es, c, hm⟩ := H.qs.map; obtain ⟨ds, z, hs⟩ := H.qr.head; exact not_map hs hm
theorem Hch.ltAll (H : Hch W p h) : ∀ x ∈ p.all, x < W.heap.size := by
  intro x hx
  simp only [Pl.all, List.mem_cons, List.not_mem_nil, or_false] at hx
  rcases hx with rfl | rfl | rfl | rfl | rfl | rfl
  · exact H.ltC
  · exact H.ring.lt
  · exact H.qs.ltB
  · exact H.qs.ltM
  · exact H.qr.ltB
  · exact H.qr.ltM

theorem rng_block {R m : Nat} {b : List Int} (H : Rg.Rng W R m b) (hb : W'.heap[R]? = W.heap[R]?) : Rg.Rng W' R m b := by
  obtain ⟨vs, f, hr, k⟩ := H; exact ⟨vs, f, hr.of_block hb, k⟩
theorem rng_but {R m : Nat} {b : List Int} (H : Rg.Rng W R m b) {S : List Nat} (hb : But S W W') (hn : R ∉ S) : Rg.Rng W' R m b := rng_block H (hb.block R H.lt hn)

/-- What turns none of its blocks leaves it. -/
theorem Hch.but (H : Hch W p h) {S : List Nat} (hb : But S W W') (hS : ∀ x ∈ p.all, x ∉ S) : Hch W' p h where
  head := (hb.block p.C H.ltC (hS _ (by simp [Pl.all]))).trans H.head
  ring := rng_but H.ring hb (hS _ (by simp [Pl.all]))
  qs := H.qs.but hb (hS _ (by simp [Pl.all])) (hS _ (by simp [Pl.all]))
  qr := H.qr.but hb (hS _ (by simp [Pl.all])) (hS _ (by simp [Pl.all]))
  ne := H.ne
  nm := H.nm
theorem Hch.fresh (H : Hch W p h) (hb : But [] W W') : Hch W' p h := H.but hb (by simp)
theorem Hch.drew (H : Hch W p h) : Hch W.drew p h := H.fresh (Lq.But.refl [] W).drew
theorem Hch.drewN (H : Hch W p h) (n : Nat) : Hch (W.drewN n) p h := H.fresh ((Lq.But.refl [] W).drewN n)
theorem Hch.later (H : Hch W p h) (hb : Below W.heap.size W W') : Hch W' p h := H.fresh (Lq.But.of_below hb [])
/-- What turns new blocks alone. -/
theorem Hch.own (H : Hch W p h) {S : List Nat} (hb : But S W W') (hS : ∀ x ∈ S, W.heap.size ≤ x) : Hch W' p h :=
  H.but hb (fun x hx hs => by have := H.ltAll x hx; have := hS x hs; omega)

theorem Hch.turnB (H : Hch W p h) {b : List Int} (hR : Rg.Rng W' p.R h.m b) (hb : But [p.R] W W') : Hch W' p (h.setB b) where
  head := (hb.block p.C H.ltC (by simpa using H.CR)).trans H.head
  ring := hR
  qs := H.qs.but hb (by simpa using H.RS.symm) (by simpa using H.RM.symm)
  qr := H.qr.but hb (by simpa using H.RT.symm) (by simpa using H.RN.symm)
  ne := H.ne
  nm := H.nm
theorem Hch.que (H : Hch W p h) (send : Bool) : Lq.Que W (p.q send) (p.n send) (h.q send) := by
  cases send
  · exact H.qr
  · exact H.qs
theorem Hch.turnQ (H : Hch W p h) {send : Bool} {xs : List Int} (hQ : Lq.Que W' (p.q send) (p.n send) xs) (hb : But [p.q send, p.n send] W W') : Hch W' p (h.setQ send xs) := by
  cases send
  · have hb : But [p.T, p.N] W W' := hb
    exact ⟨(hb.block p.C H.ltC (by simp [H.CT, H.CN])).trans H.head, rng_but H.ring hb (by simp [H.RT, H.RN]), H.qs.but hb (by simp [H.ne, H.SN]) (by simp [H.TM.symm, H.nm]), hQ, H.ne, H.nm⟩
  · have hb : But [p.S, p.M] W W' := hb
    exact ⟨(hb.block p.C H.ltC (by simp [H.CS, H.CM])).trans H.head, rng_but H.ring hb (by simp [H.RS, H.RM]), hQ, H.qr.but hb (by simp [H.ne.symm, H.TM]) (by simp [H.SN.symm, H.nm.symm]), H.ne, H.nm⟩
theorem Hch.turnC (H : Hch W p h) : Hch (W.setCell ⟨p.C, 3, none⟩ (.bool true)) p h.shut := by
  have hb : But [p.C] W (W.setCell ⟨p.C, 3, none⟩ (.bool true)) := (Lq.But.refl [p.C] W).set (.inl (by simp)) _
  exact ⟨Lq.heap_set_same _ H.head, rng_but H.ring hb (by simpa using H.CR.symm), H.qs.but hb (by simpa using H.CS.symm) (by simpa using H.CM.symm), H.qr.but hb (by simpa using H.CT.symm) (by simpa using H.CN.symm), H.ne, H.nm⟩
theorem in_R {S : List Nat} (hb : But S W W') (hS : ∀ x ∈ S, x ∈ p.all) : But p.all W W' := hb.mono hS
theorem in_q (p : Pl) (send : Bool) : ∀ x ∈ [p.q send, p.n send], x ∈ p.all := by
  intro x hx
  cases send <;> simp_all [Pl.q, Pl.n, Pl.all] <;> rcases hx with rfl | rfl <;> simp
theorem Hch.cells (H : Hch W p h) : W.cell? ⟨p.C, 0, none⟩ = some (ptrO p.R) ∧ W.cell? ⟨p.C, 1, none⟩ = some (ptrO p.S) ∧ W.cell? ⟨p.C, 2, none⟩ = some (ptrO p.T) ∧ W.cell? ⟨p.C, 3, none⟩ = some (.bool h.c) := by
  simp [World.cell?, H.head]
theorem Hch.frozen (H : Hch W p h) (k : Nat) : W.frozen? ⟨p.C, k, none⟩ = false := by simp [World.frozen?, H.head]
end
end Go.Proofs.Ytkpnkhakjgfgfaa
