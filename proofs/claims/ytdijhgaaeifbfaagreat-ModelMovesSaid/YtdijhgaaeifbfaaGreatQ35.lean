/-
  ModelMoves: its walks, part 35: DMvOk DDo.
-/
import Derived.Test.YtdijhgaaeifbfaaGreatQ00
import Derived.Test.YtdijhgaaeifbfaaGreatQ34
set_option maxRecDepth 100000
set_option maxHeartbeats 12800000
namespace Go.Proofs.YtdijhgaaeifbfaaGreat.Mdl
open Go.RowKit
open Ent (En okB)
open Mch (Wt whatK putL toSendK toRecvK)
theorem sm_b {i : Int} (h : -1 <= i) (h2 : i < 1000) : Ent.I64b i := by unfold Ent.I64b; omega
theorem z_b : Ent.I64b 0 := by unfold Ent.I64b; omega
section
variable {t c b v u p q e : Int} {o : Bool} {k : Nat}
theorem ok_send (ht : 0 <= t /\ t < 32) (hc : 0 <= c /\ c < 6) (hb : -1 <= b /\ b < 6) : okB ⟨0, 1, 0, t, 0, c, b, 0, v, 0, false, 0, 0⟩ = true := by
  refine Ent.okB_iff.2 ⟨rfl, ?_, Int.le_refl _, rfl⟩
  simp [Ent.namesOf, Ent.mayN, Ent.En.get]
  omega
theorem ok_recv (ht : 0 <= t /\ t < 32) (hc : 0 <= c /\ c < 6) (hb : -1 <= b /\ b < 6) : okB ⟨0, 2, 0, t, 0, c, b, 0, v, 0, o, 0, 0⟩ = true := by
  cases o <;> (refine Ent.okB_iff.2 ⟨rfl, ?_, Int.le_refl _, rfl⟩; simp [Ent.namesOf, Ent.mayN, Ent.En.get, Ent.flagI]; omega)
theorem ok_meet (ht : 0 <= t /\ t < 32) (hp : 0 <= p /\ p < 32) (hc : 0 <= c /\ c < 6) (hb : -1 <= b /\ b < 6) (hq : -1 <= q /\ q < 6) : okB ⟨0, 3, 0, t, p, c, b, q, v, 0, o, 0, 0⟩ = true := by
  cases o <;> (refine Ent.okB_iff.2 ⟨rfl, ?_, Int.le_refl _, rfl⟩; simp [Ent.namesOf, Ent.mayN, Ent.En.get, Ent.flagI]; omega)
theorem ok_refill (ht : 0 <= t /\ t < 32) (hp : 0 <= p /\ p < 32) (hc : 0 <= c /\ c < 6) (hb : -1 <= b /\ b < 6) (hq : -1 <= q /\ q < 6) : okB ⟨0, 4, 0, t, p, c, b, q, v, u, false, 0, 0⟩ = true := by
  refine Ent.okB_iff.2 ⟨rfl, ?_, Int.le_refl _, rfl⟩
  simp [Ent.namesOf, Ent.mayN, Ent.En.get]
  omega
theorem ok_close (ht : 0 <= t /\ t < 32) (hc : 0 <= c /\ c < 6) : okB ⟨0, 5, 0, t, 0, c, 0, 0, 0, 0, false, 0, 0⟩ = true := by
  refine Ent.okB_iff.2 ⟨rfl, ?_, Int.le_refl _, rfl⟩
  simp [Ent.namesOf, Ent.mayN, Ent.En.get]
  omega
theorem ok_wake (ht : 0 <= t /\ t < 32) (hp : 0 <= p /\ p < 32) (hc : 0 <= c /\ c < 6) (hb : -1 <= b /\ b < 6) : okB ⟨0, 6, 0, t, p, c, b, 0, 0, 0, false, 0, 0⟩ = true := by
  refine Ent.okB_iff.2 ⟨rfl, ?_, Int.le_refl _, rfl⟩
  simp [Ent.namesOf, Ent.mayN, Ent.En.get]
  omega
theorem ok_bare (ht : 0 <= t /\ t < 32) (hk : k = 7 \/ k = 8 \/ k = 10) : okB (bareE k t) = true := by
  rcases hk with rfl | rfl | rfl <;> (refine Ent.okB_iff.2 ⟨rfl, ?_, Int.le_refl _, rfl⟩; simp [bareE, Ent.namesOf, Ent.mayN, Ent.En.get]; omega)
theorem ok_spawn (ht : 0 <= t /\ t < 32) (hp : 0 <= p /\ p < 32) (hb : 0 <= b /\ b < 8) : okB ⟨0, 9, 0, t, p, 0, b, 0, 0, 0, false, 0, 0⟩ = true := by
  refine Ent.okB_iff.2 ⟨rfl, ?_, Int.le_refl _, rfl⟩
  simp [Ent.namesOf, Ent.mayN, Ent.En.get]
  omega
theorem ok_fault (ht : 0 <= t /\ t < 32) (hp : -1 <= p /\ p < 32) (he : e = 140 \/ e = 141 \/ e = 142 \/ e = 143) : okB (faultE t p e) = true := by
  refine Ent.okB_iff.2 ⟨rfl, ?_, Int.le_refl _, rfl⟩
  simp [faultE, Ent.namesOf, Ent.mayN, Ent.En.get]
  omega
end
theorem ok_at0 {x : En} : okB x = true ↔ okB (En.at0 x) = true /\ 0 <= x.a := by
  obtain ⟨a, k, w, t, p, c, b, q, v, u, o, e, s⟩ := x
  unfold En.at0
  rw [Ent.okB_iff, Ent.okB_iff]
  have hb : ∀ (y : En) (ns : List Nat) (z : En), (ns.foldl (Ent.bareStep y) z).a = z.a := fun y ns => by
    induction ns with
    | nil => intro z; rfl
    | cons n ns ih => intro z; rw [List.foldl_cons, ih]; exact Ent.put_a _ _ _
  have hg : ∀ n, Ent.En.get ⟨a, k, w, t, p, c, b, q, v, u, o, e, s⟩ n = Ent.En.get ⟨0, k, w, t, p, c, b, q, v, u, o, e, s⟩ n := fun n => by
    unfold Ent.En.get; split <;> rfl
  have hput : ∀ (n : Nat) (z : Int) (y y' : En), { y with a := 0 } = y' -> { y.put n z with a := 0 } = y'.put n z := fun n z y y' e => by
    subst e; unfold Ent.En.put; split <;> rfl
  have hf : ∀ (ns : List Nat) (y y' : En), { y with a := 0 } = y' -> { ns.foldl (Ent.bareStep ⟨a, k, w, t, p, c, b, q, v, u, o, e, s⟩) y with a := 0 } = ns.foldl (Ent.bareStep ⟨0, k, w, t, p, c, b, q, v, u, o, e, s⟩) y' := fun ns => by
    induction ns with
    | nil => intro y y' e; exact e
    | cons n ns ih =>
      intro y y' e
      rw [List.foldl_cons, List.foldl_cons]
      refine ih _ _ ?_
      unfold Ent.bareStep
      rw [hg n]
      exact hput _ _ _ _ e
  have h0 : { Ent.bareOf ⟨a, k, w, t, p, c, b, q, v, u, o, e, s⟩ with a := 0 } = Ent.bareOf ⟨0, k, w, t, p, c, b, q, v, u, o, e, s⟩ := hf _ _ _ rfl
  have ha : (Ent.bareOf ⟨a, k, w, t, p, c, b, q, v, u, o, e, s⟩).a = a := hb _ _ _
  simp only [hg]
  constructor
  · rintro ⟨h1, h2, h3, h4⟩
    refine ⟨⟨h1, h2, Int.le_refl _, ?_⟩, h3⟩
    rw [<- h0, h4]
  · rintro ⟨⟨h1, h2, _, h4⟩, h3⟩
    refine ⟨h1, h2, h3, ?_⟩
    rw [<- h0] at h4
    generalize Ent.bareOf ⟨a, k, w, t, p, c, b, q, v, u, o, e, s⟩ = B at h4 ha ⊢
    obtain ⟨a', k', w', t', p', c', b', q', v', u', o', e', s'⟩ := B
    simp only [Ent.En.mk.injEq] at h4 ha ⊢
    exact ⟨ha, h4.2⟩
inductive Mv (t : Int) (o : Opn) (c : Cha) : En -> Prop
  | fault (hs : o.s = true) (hcl : c.cl = true) : Mv t o c (faultE t (-1) 140)
  | give (hs : o.s = true) (hw : c.what true = 2) (hR : c.R ≠ []) : Mv t o c ⟨0, 3, 0, t, (headW c.R).t, o.c, o.b, (headW c.R).c, o.v, 0, true, 0, 0⟩
  | fetch (hs : o.s = false) (hw : c.what false = 2) (hS : c.S ≠ []) (hm : c.m = 0) : Mv t o c ⟨0, 3, 0, t, (headW c.S).t, o.c, o.b, (headW c.S).c, (headW c.S).v, 0, false, 0, 0⟩
  | put (hs : o.s = true) (hw : c.what true = 3) (hlt : c.buf.length < c.m) : Mv t o c ⟨0, 1, 0, t, 0, o.c, o.b, 0, o.v, 0, false, 0, 0⟩
  | get (hs : o.s = false) (hw : c.what false = 3) (hb : c.buf ≠ []) : Mv t o c ⟨0, 2, 0, t, 0, o.c, o.b, 0, c.buf.head?.getD 0, 0, true, 0, 0⟩
  | refill (hs : o.s = false) (hw : c.what false = 4) (hS : c.S ≠ []) (hm : c.m ≠ 0) : Mv t o c ⟨0, 4, 0, t, (headW c.S).t, o.c, o.b, (headW c.S).c, c.buf.head?.getD 0, (headW c.S).v, false, 0, 0⟩
  | zero (hs : o.s = false) (hw : c.what false = 5) (hb : c.buf = []) : Mv t o c ⟨0, 2, 0, t, 0, o.c, o.b, 0, 0, 0, false, 0, 0⟩
theorem mv_of (t : Int) (o : Opn) (c : Cha) (h : c.what o.s ≠ 6) : Mv t o c (moveE t o c) := by
  obtain ⟨b, s, ch, v⟩ := o
  obtain ⟨m, cl, buf, S, R⟩ := c
  cases s with
  | true =>
    cases cl with
    | true =>
      have hw : (Cha.mk m true buf S R).what true = 1 := by simp [Cha.what, whatK, toSendK]
      have he : moveE t ⟨b, true, ch, v⟩ ⟨m, true, buf, S, R⟩ = faultE t (-1) 140 := by simp [moveE, Cha.gotE, hw]
      rw [he]; exact .fault rfl rfl
    | false =>
      cases R with
      | cons x r =>
        have hw : (Cha.mk m false buf S (x :: r)).what true = 2 := by simp [Cha.what, whatK, toSendK]
        have he : moveE t ⟨b, true, ch, v⟩ ⟨m, false, buf, S, x :: r⟩ = ⟨0, 3, 0, t, x.t, ch, b, x.c, v, 0, true, 0, 0⟩ := by simp [moveE, Cha.gotE, Cha.got, hw, headW]
        rw [he]; exact .give rfl hw (by simp)
      | nil =>
        by_cases hlt : buf.length < m
        · have hw : (Cha.mk m false buf S []).what true = 3 := by simp [Cha.what, whatK, toSendK, hlt]
          have he : moveE t ⟨b, true, ch, v⟩ ⟨m, false, buf, S, []⟩ = ⟨0, 1, 0, t, 0, ch, b, 0, v, 0, false, 0, 0⟩ := by simp [moveE, Cha.gotE, Cha.got, hw]
          rw [he]; exact .put rfl hw hlt
        · exact absurd (by simp [Cha.what, whatK, toSendK, hlt]) h
  | false =>
    cases S with
    | cons x r =>
      by_cases hm : m = 0
      · have hw : (Cha.mk m cl buf (x :: r) R).what false = 2 := by simp [Cha.what, whatK, toRecvK, hm]
        have he : moveE t ⟨b, false, ch, v⟩ ⟨m, cl, buf, x :: r, R⟩ = ⟨0, 3, 0, t, x.t, ch, b, x.c, x.v, 0, false, 0, 0⟩ := by simp [moveE, Cha.gotE, Cha.got, hw, headW]
        rw [he]; exact .fetch rfl hw (by simp) hm
      · have hw : (Cha.mk m cl buf (x :: r) R).what false = 4 := by simp [Cha.what, whatK, toRecvK, hm]
        have he : moveE t ⟨b, false, ch, v⟩ ⟨m, cl, buf, x :: r, R⟩ = ⟨0, 4, 0, t, x.t, ch, b, x.c, buf.head?.getD 0, x.v, false, 0, 0⟩ := by simp [moveE, Cha.gotE, Cha.got, hw, headW]
        rw [he]; exact .refill rfl hw (by simp) hm
    | nil =>
      cases buf with
      | cons y r =>
        have hw : (Cha.mk m cl (y :: r) [] R).what false = 3 := by simp [Cha.what, whatK, toRecvK]
        have he : moveE t ⟨b, false, ch, v⟩ ⟨m, cl, y :: r, [], R⟩ = ⟨0, 2, 0, t, 0, ch, b, 0, y, 0, true, 0, 0⟩ := by simp [moveE, Cha.gotE, Cha.got, hw]
        rw [he]; exact .get rfl hw (by simp)
      | nil =>
        cases cl with
        | true =>
          have hw : (Cha.mk m true [] [] R).what false = 5 := by simp [Cha.what, whatK, toRecvK]
          have he : moveE t ⟨b, false, ch, v⟩ ⟨m, true, [], [], R⟩ = ⟨0, 2, 0, t, 0, ch, b, 0, 0, 0, false, 0, 0⟩ := by simp [moveE, Cha.gotE, Cha.got, hw]
          rw [he]; exact .zero rfl hw rfl
        | false => exact absurd (by simp [Cha.what, whatK, toRecvK]) h
structure MvOk (M : Mod) (t : Int) (x : En) : Prop where
  tt : x.t = t
  aa : x.a = 0
  k : 1 <= x.k /\ x.k <= 11
  ok : okB x = true
  wf : x.ok
  ch : x.k <= 5 -> 0 <= x.c /\ x.c < (M.C.length : Int)
  pe : x.k = 3 \/ x.k = 4 -> 0 <= x.p /\ x.p < (M.T.length : Int)
  st : x.k = 7 \/ x.k = 8 -> (M.stand t).2 = 0
  s7 : x.k = 7 -> (M.does t).o = 8
  s8 : x.k = 8 -> ((M.does t).o = 5 \/ (M.does t).o = 6 \/ (M.does t).o = 8) /\ commits M t (tries M (M.stand t).1 (M.does t)) = []
  s9 : x.k = 9 -> M.T.length < M.most
  s5 : x.k = 1 \/ x.k = 2 \/ x.k = 3 \/ x.k = 4 -> ∃ o, OpOk M o /\ o.c = x.c /\ Mv t o (M.ch x.c) x
section
variable {M : Mod} {t : Int}
theorem kn {k n : Nat} {P : Prop} (e : k = n) (h : k ≠ n) : P := absurd e h
theorem mv_ok (h : Inv M) (ht : 0 <= t /\ t < (M.T.length : Int)) {o : Opn} (ho : OpOk M o) (hr : ready M o = true) : MvOk M t (moveE t o (M.ch o.c)) := by
  have hr' : o.c ≠ -1 /\ (M.ch o.c).what o.s ≠ 6 := by simpa [ready] using hr
  have hc0 := ho.c.resolve_left hr'.1
  have hb := ho.b
  have hv : Ent.I64b o.v := ho.v
  have hch := h.chan o.c
  have hmv := mv_of t o (M.ch o.c) hr'.2
  have h32 := h.t32
  have h6 := h.c6
  have t32 : 0 <= t /\ t < 32 := by omega
  have c6 : 0 <= o.c /\ o.c < 6 := by omega
  have tb : Ent.I64b t := sm_b (by omega) (by omega)
  have cb : Ent.I64b o.c := sm_b (by omega) (by omega)
  have bb : Ent.I64b o.b := sm_b (by omega) (by omega)
  have hbuf : ∀ l : List Int, (∀ v ∈ l, I64b v) -> Ent.I64b (l.head?.getD 0) := fun l hl => by
    cases l with
    | nil => exact z_b
    | cons y r => exact hl y (List.mem_cons_self ..)
  generalize moveE t o (M.ch o.c) = x at hmv
  have hmv2 := hmv
  cases hmv with
  | fault hs hcl =>
    exact ⟨rfl, rfl, ⟨by first | (simp; done) | (simp [faultE]; done), by first | (simp; done) | (simp [faultE]; done)⟩, ok_fault t32 ⟨by first | (simp; done) | (simp [faultE]; done), by first | (simp; done) | (simp [faultE]; done)⟩ (.inl rfl), ⟨z_b, by first | (simp; done) | (simp [faultE]; done), z_b, tb, sm_b (by first | (simp; done) | (simp [faultE]; done)) (by first | (simp; done) | (simp [faultE]; done)), z_b, z_b, z_b, z_b, z_b, sm_b (by first | (simp; done) | (simp [faultE]; done)) (by first | (simp; done) | (simp [faultE]; done)), by first | (simp; done) | (simp [faultE]; done)⟩,
      fun e => absurd e (by simp [faultE]), fun e => absurd e (by simp [faultE]), fun e => absurd e (by simp [faultE]), fun e => absurd e (by simp [faultE]), fun e => absurd e (by simp [faultE]), fun e => absurd e (by simp [faultE]), fun e => absurd e (by simp [faultE])⟩
  | give hs hw hR =>
    obtain ⟨⟨p0, p1⟩, ⟨q0, q1⟩, _⟩ := hch.rw_ _ (head_mem hR)
    have pb : Ent.I64b (headW (M.ch o.c).R).t := sm_b (by omega) (by omega)
    have qb : Ent.I64b (headW (M.ch o.c).R).c := sm_b (by omega) (by omega)
    exact ⟨rfl, rfl, ⟨by first | (simp; done) | (simp [faultE]; done), by first | (simp; done) | (simp [faultE]; done)⟩, ok_meet t32 ⟨p0, by omega⟩ c6 hb ⟨q0, q1⟩, ⟨z_b, by first | (simp; done) | (simp [faultE]; done), z_b, tb, pb, cb, bb, qb, hv, z_b, z_b, by first | (simp; done) | (simp [faultE]; done)⟩,
      fun _ => hc0, fun _ => ⟨p0, p1⟩, fun e => absurd e (by simp), fun e => absurd e (by simp), fun e => absurd e (by simp), fun e => absurd e (by simp), fun _ => ⟨o, ho, rfl, hmv2⟩⟩
  | fetch hs hw hS hm =>
    obtain ⟨⟨p0, p1⟩, ⟨q0, q1⟩, hv2⟩ := hch.sw _ (head_mem hS)
    have pb : Ent.I64b (headW (M.ch o.c).S).t := sm_b (by omega) (by omega)
    have qb : Ent.I64b (headW (M.ch o.c).S).c := sm_b (by omega) (by omega)
    exact ⟨rfl, rfl, ⟨by first | (simp; done) | (simp [faultE]; done), by first | (simp; done) | (simp [faultE]; done)⟩, ok_meet t32 ⟨p0, by omega⟩ c6 hb ⟨q0, q1⟩, ⟨z_b, by first | (simp; done) | (simp [faultE]; done), z_b, tb, pb, cb, bb, qb, hv2, z_b, z_b, by first | (simp; done) | (simp [faultE]; done)⟩,
      fun _ => hc0, fun _ => ⟨p0, p1⟩, fun e => absurd e (by simp), fun e => absurd e (by simp), fun e => absurd e (by simp), fun e => absurd e (by simp), fun _ => ⟨o, ho, rfl, hmv2⟩⟩
  | put hs hw hlt =>
    exact ⟨rfl, rfl, ⟨by first | (simp; done) | (simp [faultE]; done), by first | (simp; done) | (simp [faultE]; done)⟩, ok_send t32 c6 hb, ⟨z_b, by first | (simp; done) | (simp [faultE]; done), z_b, tb, z_b, cb, bb, z_b, hv, z_b, z_b, by first | (simp; done) | (simp [faultE]; done)⟩,
      fun _ => hc0, fun e => absurd e (by simp), fun e => absurd e (by simp), fun e => absurd e (by simp), fun e => absurd e (by simp), fun e => absurd e (by simp), fun _ => ⟨o, ho, rfl, hmv2⟩⟩
  | get hs hw hb' =>
    exact ⟨rfl, rfl, ⟨by first | (simp; done) | (simp [faultE]; done), by first | (simp; done) | (simp [faultE]; done)⟩, ok_recv t32 c6 hb, ⟨z_b, by first | (simp; done) | (simp [faultE]; done), z_b, tb, z_b, cb, bb, z_b, hbuf _ hch.bv, z_b, z_b, by first | (simp; done) | (simp [faultE]; done)⟩,
      fun _ => hc0, fun e => absurd e (by simp), fun e => absurd e (by simp), fun e => absurd e (by simp), fun e => absurd e (by simp), fun e => absurd e (by simp), fun _ => ⟨o, ho, rfl, hmv2⟩⟩
  | refill hs hw hS hm =>
    obtain ⟨⟨p0, p1⟩, ⟨q0, q1⟩, hv2⟩ := hch.sw _ (head_mem hS)
    have pb : Ent.I64b (headW (M.ch o.c).S).t := sm_b (by omega) (by omega)
    have qb : Ent.I64b (headW (M.ch o.c).S).c := sm_b (by omega) (by omega)
    exact ⟨rfl, rfl, ⟨by first | (simp; done) | (simp [faultE]; done), by first | (simp; done) | (simp [faultE]; done)⟩, ok_refill t32 ⟨p0, by omega⟩ c6 hb ⟨q0, q1⟩, ⟨z_b, by first | (simp; done) | (simp [faultE]; done), z_b, tb, pb, cb, bb, qb, hbuf _ hch.bv, hv2, z_b, by first | (simp; done) | (simp [faultE]; done)⟩,
      fun _ => hc0, fun _ => ⟨p0, p1⟩, fun e => absurd e (by simp), fun e => absurd e (by simp), fun e => absurd e (by simp), fun e => absurd e (by simp), fun _ => ⟨o, ho, rfl, hmv2⟩⟩
  | zero hs hw hb' =>
    exact ⟨rfl, rfl, ⟨by first | (simp; done) | (simp [faultE]; done), by first | (simp; done) | (simp [faultE]; done)⟩, ok_recv t32 c6 hb, ⟨z_b, by first | (simp; done) | (simp [faultE]; done), z_b, tb, z_b, cb, bb, z_b, z_b, z_b, z_b, by first | (simp; done) | (simp [faultE]; done)⟩,
      fun _ => hc0, fun e => absurd e (by simp), fun e => absurd e (by simp), fun e => absurd e (by simp), fun e => absurd e (by simp), fun e => absurd e (by simp), fun _ => ⟨o, ho, rfl, hmv2⟩⟩
theorem bare_ok {k : Nat} (h : Inv M) (ht : 0 <= t /\ t < (M.T.length : Int)) (hk : k = 7 \/ k = 8 \/ k = 10) (st : k = 7 \/ k = 8 -> (M.stand t).2 = 0) (s7 : k = 7 -> (M.does t).o = 8)
    (s8 : k = 8 -> ((M.does t).o = 5 \/ (M.does t).o = 6 \/ (M.does t).o = 8) /\ commits M t (tries M (M.stand t).1 (M.does t)) = []) : MvOk M t (bareE k t) := by
  have h32 := h.t32
  have t32 : 0 <= t /\ t < 32 := by omega
  have k1 : ¬ k <= 5 := by omega
  exact ⟨rfl, rfl, by show 1 <= k /\ k <= 11; omega, ok_bare t32 hk, ⟨z_b, by show k < 256; omega, z_b, sm_b (i := t) (by omega) (by omega), z_b, z_b, z_b, z_b, z_b, z_b, z_b, by show (0 : Nat) < _; omega⟩,
    fun e => absurd e k1, fun e => by have : k = 3 \/ k = 4 := e; omega, st, s7, s8, fun e => by have : k = 9 := e; omega, fun e => by have : k = 1 \/ k = 2 \/ k = 3 \/ k = 4 := e; omega⟩
theorem fault_ok {p e : Int} (h : Inv M) (ht : 0 <= t /\ t < (M.T.length : Int)) (hp : -1 <= p /\ p < 32) (he : e = 140 \/ e = 141 \/ e = 142 \/ e = 143) : MvOk M t (faultE t p e) := by
  have h32 := h.t32
  have t32 : 0 <= t /\ t < 32 := by omega
  exact ⟨rfl, rfl, ⟨by first | (simp; done) | (simp [faultE]; done), by first | (simp; done) | (simp [faultE]; done)⟩, ok_fault t32 hp he, ⟨z_b, by first | (simp; done) | (simp [faultE]; done), z_b, sm_b (i := t) (by omega) (by omega), sm_b (i := p) (by omega) (by omega), z_b, z_b, z_b, z_b, z_b, sm_b (by show -1 <= e; omega) (by show e < 1000; omega), by first | (simp; done) | (simp [faultE]; done)⟩,
    fun e => absurd e (by simp [faultE]), fun e => absurd e (by simp [faultE]), fun e => absurd e (by simp [faultE]), fun e => absurd e (by simp [faultE]), fun e => absurd e (by simp [faultE]), fun e => absurd e (by simp [faultE]), fun e => absurd e (by simp [faultE])⟩
theorem task_b {y : Pla} (h : M.task t = some y) : 0 <= t /\ t < (M.T.length : Int) := by
  unfold Mod.task at h
  split at h
  · have := (List.getElem?_eq_some_iff.1 h).1; omega
  · cases h
theorem movesO_ok {idle : Nat} {l : List Opn} (h : Inv M) (ht : 0 <= t /\ t < (M.T.length : Int)) (hl : ∀ o ∈ l, OpOk M o) (hi : commits M t l = [] -> MvOk M t (bareE idle t)) : ∀ x ∈ movesO M t idle l, MvOk M t x := by
  intro x hx
  unfold movesO at hx
  split at hx
  · rename_i hc
    rw [List.mem_singleton.1 hx]; exact hi hc
  · unfold commits at hx
    obtain ⟨o, ho, rfl⟩ := List.mem_map.1 hx
    obtain ⟨h1, h2⟩ := List.mem_filter.1 ho
    exact mv_ok h ht (hl o h1) h2
theorem may_ok (h : Inv M) (h0 : (M.stand t).2 = 0) : ∀ x ∈ mayE M t (M.stand t).1 (M.does t), MvOk M t x := by
  obtain ⟨ha, h5, h10, y, hy, _⟩ := does_at h.chk h0
  have ht := task_b hy
  have h32 := h.t32
  have t32 : 0 <= t /\ t < 32 := by omega
  have hops := fun ho => tries_ok h.chk h.cl (h.sfr t) ha ho
  intro x hx
  have hc : (M.does t).o = 5 \/ (M.does t).o = 6 \/ (M.does t).o = 7 \/ (M.does t).o = 8 \/ (M.does t).o = 9 \/ (M.does t).o = 10 := by omega
  unfold mayE at hx
  rcases hc with e | e | e | e | e | e <;> simp only [e] at hx
  · exact movesO_ok h ht (hops (.inl e)) (fun hn => bare_ok h ht (.inr (.inl rfl)) (fun _ => h0) (fun e => by cases e) (fun _ => ⟨.inl e, hn⟩)) x hx
  · exact movesO_ok h ht (hops (.inr (.inl e))) (fun hn => bare_ok h ht (.inr (.inl rfl)) (fun _ => h0) (fun e => by cases e) (fun _ => ⟨.inr (.inl e), hn⟩)) x hx
  · rw [List.mem_singleton.1 hx]
    unfold closeE
    split
    · exact fault_ok h ht ⟨by first | (simp; done) | (simp [faultE]; done), by first | (simp; done) | (simp [faultE]; done)⟩ (.inr (.inr (.inl rfl)))
    · rename_i hne
      split
      · exact fault_ok h ht ⟨by first | (simp; done) | (simp [faultE]; done), by first | (simp; done) | (simp [faultE]; done)⟩ (.inr (.inl rfl))
      · have hcc := (at_ch h.chk ha (.inr (.inr e))).resolve_left hne
        rw [<- h.cl] at hcc
        have h6 := h.c6
        exact ⟨rfl, rfl, ⟨by first | (simp; done) | (simp [faultE]; done), by first | (simp; done) | (simp [faultE]; done)⟩, ok_close t32 ⟨hcc.1, by omega⟩, ⟨z_b, by first | (simp; done) | (simp [faultE]; done), z_b, sm_b (i := t) (by omega) (by omega), z_b, sm_b (i := (M.does t).c) (by omega) (by omega), z_b, z_b, z_b, z_b, z_b, by first | (simp; done) | (simp [faultE]; done)⟩,
          fun _ => hcc, fun e => absurd e (by simp), fun e => absurd e (by simp), fun e => absurd e (by simp), fun e => absurd e (by simp), fun e => absurd e (by simp), fun e => absurd e (by simp)⟩
  · refine movesO_ok h ht (hops (.inr (.inr e))) (fun hn => ?_) x hx
    split
    · exact bare_ok h ht (.inl rfl) (fun _ => h0) (fun _ => e) (fun e => by cases e)
    · exact bare_ok h ht (.inr (.inl rfl)) (fun _ => h0) (fun e => by cases e) (fun _ => ⟨.inr (.inr e), hn⟩)
  · rw [List.mem_singleton.1 hx]
    unfold spawnE
    split
    · exact fault_ok h ht ⟨by first | (simp; done) | (simp [faultE]; done), by first | (simp; done) | (simp [faultE]; done)⟩ (.inr (.inr (.inr rfl)))
    · rename_i hn
      have hk := at_code h.chk ha e
      exact ⟨rfl, rfl, ⟨by first | (simp; done) | (simp [faultE]; done), by first | (simp; done) | (simp [faultE]; done)⟩, ok_spawn t32 ⟨by omega, by have := h.mo; omega⟩ hk, ⟨z_b, by first | (simp; done) | (simp [faultE]; done), z_b, sm_b (i := t) (by omega) (by omega), sm_b (by show -1 <= (M.T.length : Int); omega) (by show (M.T.length : Int) < 1000; omega), z_b, sm_b (by show -1 <= (M.does t).k; omega) (by show (M.does t).k < 1000; omega), z_b, z_b, z_b, z_b, by first | (simp; done) | (simp [faultE]; done)⟩,
        fun e => absurd e (by simp), fun e => absurd e (by simp), fun e => absurd e (by simp), fun e => absurd e (by simp), fun e => absurd e (by simp), fun _ => by omega, fun e => absurd e (by simp)⟩
  · rw [List.mem_singleton.1 hx]
    exact bare_ok h ht (.inr (.inr rfl)) (fun e => by rcases e with e | e <;> cases e) (fun e => by cases e) (fun e => by cases e)
theorem befalls_ok (h : Inv M) (ht : 0 <= t /\ t < (M.T.length : Int)) : ∀ x ∈ befalls M t, MvOk M t x := by
  intro x hx
  have h32 := h.t32
  have h6 := h.c6
  have t32 : 0 <= t /\ t < 32 := by omega
  unfold befalls at hx
  obtain ⟨l, hl, hx⟩ := List.mem_flatten.1 hx
  obtain ⟨i, hi, rfl⟩ := List.mem_iff_getElem.1 hl
  rw [List.getElem_mapIdx] at hx
  have hi' : i < M.C.length := by simpa using hi
  have hc := h.ch _ (List.getElem_mem hi')
  have hk := h.k i _ (List.getElem?_eq_getElem hi')
  generalize M.C[i] = c at hx hc hk
  unfold befallE at hx
  split at hx
  · rename_i hcl
    have hkk := hk hcl
    split at hx
    · rename_i hR
      rw [List.mem_singleton.1 hx]
      have hR' : c.R ≠ [] := by
        intro e; rw [e] at hR; simp at hR
      obtain ⟨_, hq, _⟩ := hc.rw_ _ (head_mem hR')
      exact ⟨rfl, rfl, ⟨by first | (simp; done) | (simp [faultE]; done), by first | (simp; done) | (simp [faultE]; done)⟩, ok_wake t32 hkk ⟨by omega, by omega⟩ hq, ⟨z_b, by first | (simp; done) | (simp [faultE]; done), z_b, sm_b (i := t) (by omega) (by omega), sm_b (i := M.K i) (by omega) (by omega), sm_b (by show -1 <= (i : Int); omega) (by show (i : Int) < 1000; omega), sm_b (i := (headW c.R).c) (by omega) (by omega), z_b, z_b, z_b, z_b, by first | (simp; done) | (simp [faultE]; done)⟩,
        fun e => absurd e (by simp), fun e => absurd e (by simp), fun e => absurd e (by simp), fun e => absurd e (by simp), fun e => absurd e (by simp), fun e => absurd e (by simp), fun e => absurd e (by simp)⟩
    · split at hx
      · rw [List.mem_singleton.1 hx]; exact fault_ok h ht ⟨by omega, by omega⟩ (.inl rfl)
      · cases hx
  · cases hx
theorem moves_ok (h : Inv M) : ∀ x ∈ M.moves t, MvOk M t x /\ M.e = 0 /\ 0 <= t /\ t < (M.T.length : Int) := by
  intro x hx
  unfold Mod.moves at hx
  cases hy : M.task t with
  | none => rw [hy] at hx; cases hx
  | some y =>
    rw [hy] at hx
    simp only at hx
    split at hx
    · cases hx
    · rename_i he
      have ht := task_b hy
      split at hx
      · exact ⟨befalls_ok h ht x hx, by simpa using he, ht⟩
      · split at hx
        · cases hx
        · rename_i h0
          exact ⟨may_ok h (by simpa using h0) x hx, by simpa using he, ht⟩
end
open Go.RowKit
open Ent (En okB)
open Mch (Wt whatK putL toSendK toRecvK)
section
variable {M : Mod} {t : Int} {x : En}
theorem inv_serve (h : Inv M) (c : Int) (s : Bool) {v : Int} (hv : I64b v) : Inv (M.setC c fun d => d.serve s v) := h.setC c (fun _ _ hd => hd.serve s hv) (fun _ => serve_cl s v)
theorem inv_do (h : Inv M) (hx : MvOk M t x) (ht : 0 <= t /\ t < (M.T.length : Int)) : Inv (M.do_ x) := by
  have hb : I64b x.b := hx.wf.b
  have hv : I64b x.v := hx.wf.v
  have hq : I64b x.q := hx.wf.q
  have m1 : I64b (-1) := ⟨by omega, by omega⟩
  have h32 := h.t32
  have e := hx.tt
  have hk : x.k = 1 \/ x.k = 2 \/ x.k = 3 \/ x.k = 4 \/ x.k = 5 \/ x.k = 6 \/ x.k = 7 \/ x.k = 8 \/ x.k = 9 \/ x.k = 10 \/ x.k = 11 := by have := hx.k; omega
  unfold Mod.do_
  rcases hk with hk | hk | hk | hk | hk | hk | hk | hk | hk | hk | hk <;> simp only [hk]
  · exact (inv_serve h x.c true hv).goOn hb i64_zero _
  · exact (inv_serve h x.c false i64_zero).goOn hb hv _
  · split
    · exact ((inv_serve h x.c true hv).goOn hb i64_zero _).goOn hq hv _
    · exact ((inv_serve h x.c false hv).goOn hb hv _).goOn hq i64_zero _
  · exact ((inv_serve h x.c false i64_zero).goOn hb hv _).goOn hq i64_zero _
  · exact (h.closed x.c (by rw [e]; omega)).goOn m1 i64_zero _
  · exact h.goOn hb i64_zero _
  · have ho := hx.s7 hk
    have h0 := hx.st (.inl hk)
    obtain ⟨ha, _, _, _⟩ := does_at h.chk h0
    obtain ⟨s, hs, hs', _⟩ := site_at h.chk ha ho
    have := (site_all h.chk hs').1
    refine h.goOn ?_ i64_zero _
    rw [e, hs]
    exact ⟨by omega, by omega⟩
  · have h0 := hx.st (.inr hk)
    obtain ⟨ho, hc⟩ := hx.s8 hk
    obtain ⟨ha, _, _, _⟩ := does_at h.chk h0
    have hops := tries_ok h.chk h.cl (h.sfr t) ha ho
    unfold Mod.block
    rw [e]
    have hw := Waits.fold ht (tries M (M.stand t).1 (M.does t)) M h.waits (fun o hm => by
      refine ⟨hops o hm, ?_⟩
      by_cases hc1 : o.c = -1
      · exact .inl hc1
      · refine .inr ?_
        have hnr : ready M o = false := by
          cases hr : ready M o with
          | false => rfl
          | true =>
            have : moveE t o (M.ch o.c) ∈ commits M t (tries M (M.stand t).1 (M.does t)) := List.mem_map.2 ⟨o, List.mem_filter.2 ⟨hm, hr⟩, rfl⟩
            rw [hc] at this; cases this
        have h6 : (M.ch o.c).what o.s = 6 := by
          unfold ready at hnr
          simp only [Bool.and_eq_false_imp, bne_iff_ne, ne_eq, hc1, not_false_eq_true, forall_const, bne_eq_false_iff_eq] at hnr
          exact hnr
        exact (what_six (h.chan o.c) h6).2)
    exact (hw.inv h).setT ⟨2, (M.stand t).1⟩ (h.sfr t)
  · exact (h.spawned (hx.s9 hk) _ (rok_at0 (h.wfr _) _)).goOn m1 i64_zero _
  · exact h.setT ⟨3, M.where_ x.t⟩ (h.wfr _)
  · exact h.blamed x.t x.e
theorem goOn_T (k v : Int) (ok : Bool) (j : Nat) (hj : (j : Int) ≠ t) (h0 : 0 <= t) : (M.goOn t k v ok).T[j]? = M.T[j]? := by
  unfold Mod.goOn
  simp only
  rw [List.getElem?_set_ne (by omega)]
theorem foldW_T : ∀ (l : List Opn) (N : Mod), (l.foldl (waitAt t) N).T = N.T
  | [], _ => rfl
  | o :: l, N => by rw [List.foldl_cons, foldW_T l]; unfold waitAt; split <;> rfl
theorem do_T (hx : MvOk M t x) (ht : 0 <= t) (j : Nat) (hl : j < M.T.length) (hj : (j : Int) ≠ t) (hp : (j : Int) ≠ x.p) : (M.do_ x).T[j]? = M.T[j]? := by
  have e := hx.tt
  have hk : x.k = 1 \/ x.k = 2 \/ x.k = 3 \/ x.k = 4 \/ x.k = 5 \/ x.k = 6 \/ x.k = 7 \/ x.k = 8 \/ x.k = 9 \/ x.k = 10 \/ x.k = 11 := by have := hx.k; omega
  unfold Mod.do_
  rcases hk with hk | hk | hk | hk | hk | hk | hk | hk | hk | hk | hk <;> simp only [hk, e]
  · rw [goOn_T _ _ _ _ hj ht]; rfl
  · rw [goOn_T _ _ _ _ hj ht]; rfl
  · have hp0 := (hx.pe (.inl hk)).1
    split
    · rw [goOn_T _ _ _ _ hp hp0, goOn_T _ _ _ _ hj ht]; rfl
    · rw [goOn_T _ _ _ _ hp hp0, goOn_T _ _ _ _ hj ht]; rfl
  · have hp0 := (hx.pe (.inr hk)).1
    rw [goOn_T _ _ _ _ hp hp0, goOn_T _ _ _ _ hj ht]; rfl
  · rw [goOn_T _ _ _ _ hj ht]; rfl
  · rw [goOn_T _ _ _ _ hj ht]
  · rw [goOn_T _ _ _ _ hj ht]
  · unfold Mod.block Mod.setT
    simp only
    rw [List.getElem?_set_ne (by omega), foldW_T]
  · rw [goOn_T _ _ _ _ hj ht]
    simp only
    rw [List.getElem?_append_left hl]
  · unfold Mod.setT
    simp only
    rw [List.getElem?_set_ne (by omega)]
theorem at0_move (hx : MvOk M t x) : En.at0 x = x := by
  have := hx.aa
  obtain ⟨a, k, w, t, p, c, b, q, v, u, o, e, s⟩ := x
  simp only at this
  subst this; rfl
theorem applyE_zero (h : Inv M) : M.applyE x = 0 ↔ En.at0 x ∈ M.moves x.t /\ 0 <= x.a := by
  unfold Mod.applyE
  constructor
  · intro h0
    split at h0
    · exact absurd h0 (by simp)
    · split at h0
      · exact absurd h0 (by simp)
      · rename_i ho
        split at h0
        · rename_i hm
          refine ⟨hm, ?_⟩
          have ho2 : okB x = true := by
            cases hb : okB x with
            | true => rfl
            | false => rw [hb] at ho; simp at ho
          exact (ok_at0.1 ho2).2
        · exact absurd h0 (by simp)
  · rintro ⟨hm, ha⟩
    obtain ⟨ho, he, _⟩ := moves_ok h _ hm
    rw [if_neg (by simpa using he)]
    have hk : 1 <= x.k /\ x.k <= 11 := ho.k
    have hok : okB x = true := ok_at0.2 ⟨ho.ok, ha⟩
    rw [if_neg (by simp [hok, hk.1, hk.2]), if_pos hm]
theorem inv_apply (h : Inv M) : Inv (M.apply x) := by
  unfold Mod.apply
  split
  · rename_i h0
    obtain ⟨hm, _⟩ := (applyE_zero h).1 h0
    obtain ⟨ho, _, ht⟩ := moves_ok h _ hm
    exact inv_do h ho ht
  · exact h
theorem moves_some (he : M.e = 0) (h0 : (M.stand t).2 = 0) : M.moves t ≠ [] := by
  unfold Mod.moves
  cases hy : M.task t with
  | none => unfold Mod.stand at h0; rw [hy] at h0; exact absurd h0 (by simp)
  | some y =>
    have h1 : y.s = 1 := by
      unfold Mod.stand at h0; rw [hy] at h0
      simp only at h0
      split at h0
      · assumption
      · exact absurd h0 (by simp)
    simp only
    rw [if_neg (by simpa using he), if_neg (by omega), if_neg (by simpa using h0)]
    have hmo : ∀ idle l, movesO M t idle l ≠ [] := fun idle l => by
      unfold movesO
      split
      · simp
      · assumption
    unfold mayE
    split
    · exact hmo _ _
    · exact hmo _ _
    · exact hmo _ _
    · simp
    · simp
    · simp
theorem moves_halt (he : M.e ≠ 0) : M.moves t = [] := by
  unfold Mod.moves
  split
  · rfl
  · rw [if_pos he]
end
end Go.Proofs.YtdijhgaaeifbfaaGreat.Mdl
