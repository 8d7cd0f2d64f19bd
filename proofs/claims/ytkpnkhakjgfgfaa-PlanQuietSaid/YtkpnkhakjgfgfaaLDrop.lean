/-
  The walks of Drop and Pop.
-/
import Derived.Test.YtkpnkhakjgfgfaaLDo
namespace Go.Proofs.Ytkpnkhakjgfgfaa.Lq
open Go.RowKit

theorem drop_nil (i : Int) (w : World) :
    Calls Try.prog 45 #[.pointer none, .int .i64 i] w fun e w' => e = .returned (.int .i64 1) ∧ w' = w := by
  go_enter Try.func45, Try.ntmps45
  go_wp2_with fail
  go_ret
  exact ⟨rfl, rfl⟩
theorem drop_not {B M : Nat} {xs : List Int} (i : Int) (hi : I64b i) (w : World) (h : Que w B M xs) (hm : i ∉ xs) :
    Calls Try.prog 45 #[.pointer (some ⟨B, 0, none⟩), .int .i64 i] w fun e w' => e = .returned (.int .i64 3) ∧ But [] w w' := by
  have hh := has_any i hi w h
  simp only [hm, decide_false] at hh
  clear h hm hi
  go_enter Try.func45, Try.ntmps45
  go_wp2_with fail
  refine hh.mono ?_
  rintro e w' ⟨rfl, hb⟩
  go_wp2_with fail
  go_ret
  exact ⟨rfl, hb⟩
/-- What stands behind the region of Drop, wherever the box and the struct lie. -/
def Dropped (M X Y : Nat) (i xa xb : Int) (W w3 : World) (R : World → Prop) : Prop :=
  (∀ ty, (Builtin.delete_ #[97, 3] ty #[.map (some M), .int .i64 i]).run Try.prog W = .ok (.tuple #[]) w3) ∧ w3.cell? ⟨Y, 0, none⟩ = some (.int .i64 xa) ∧ w3.cell? ⟨Y, 1, none⟩ = some (.int .i64 xb) ∧
    Calls Try.prog 61 #[.int .i64 xa, .int .i64 xb, .pointer (some ⟨X, 0, none⟩)] w3 fun e w' => e = .returned (.tuple #[]) ∧ R w'
theorem drop_tail {B M X Y : Nat} {g : Gs} {f l xa xb i : Int} {p q : List Int} {w W : World} (h : Lst W B M g f l (p ++ i :: q).length) (k : Lk g f l (p ++ i :: q)) (hx : g i = some (xa, xb))
    (hX : Boxed W X 78 (.pointer (some ⟨B, 0, none⟩))) (ha : W.cell? ⟨Y, 0, none⟩ = some (.int .i64 xa)) (hb : W.cell? ⟨Y, 1, none⟩ = some (.int .i64 xb)) (hY : Y ≠ M) (hle : (p ++ i :: q).length ≤ 1024) (hbw : But [B, M] w W) :
    ∃ w3, Dropped M X Y i xa xb W w3 (fun w' => Que w' B M (p ++ q) ∧ But [B, M] w w') := by
  have hr := k.rng i (by simp)
  have hib : I64b i := by unfold I64b; omega
  obtain ⟨HP, hra, hrb⟩ := k.drop hx
  simp only at hra hrb
  obtain ⟨w3, hrun, hm3, hb3⟩ := h.map.drop hib 0
  rw [hx] at hm3
  simp only [Option.isSome_some, if_true] at hm3
  have hlen : (p ++ i :: q).length - 1 = (p ++ q).length := by simp
  have hl4 : Lst w3 B M (upd g i none) f l ((p ++ i :: q).length - 1) := h.mapped hm3 hb3
  have hXM := map_ne h.map hX
  have hX3 := hb3.boxed hX (by simpa using hXM)
  refine ⟨w3, fun ty => hrun, hb3.cell ha (by simpa using hY), hb3.cell hb (by simpa using hY), ?_⟩
  refine (join_any xa xb hra hrb (by unfold maxLen; omega) w3 hl4 hX3).mono ?_
  rintro e w4 ⟨rfl, hl5, hb5⟩
  exact ⟨rfl, ⟨_, _, _, hlen ▸ hl5, HP⟩, (hbw.next (hb3.mono (by simp))).next hb5⟩
theorem cell_of {W : World} {k j : Nat} {cs : Array Value} {t : TypeId} {z : Nat × Nat} {v : Value} (h : W.heap[k]? = some (.cells cs t z)) (hv : cs[j]? = some v) : W.drew.cell? ⟨k, j, none⟩ = some v := by
  show W.cell? _ = _
  simp [World.cell?, h, hv]
theorem two_new (w : World) (o o' : Obj) : ((w.alloc o).alloc o').heap[w.heap.size]? = some o ∧ ((w.alloc o).alloc o').heap[w.heap.size + 1]? = some o' := by
  have e : (w.alloc o).heap.size = w.heap.size + 1 := by simp
  have h1 := (MapKept.heap_alloc w o).1
  have h2 := (MapKept.heap_alloc (w.alloc o) o').1
  rw [e] at h2
  exact ⟨((But.refl [] (w.alloc o)).alloc o' |>.block _ (by rw [e]; omega) (by simp)).trans h1, h2⟩
set_option maxRecDepth 100000 in
set_option maxHeartbeats 1000000 in
theorem drop_ok {B M : Nat} {p q : List Int} (i : Int) (w : World) (h : Que w B M (p ++ i :: q)) :
    Calls Try.prog 45 #[.pointer (some ⟨B, 0, none⟩), .int .i64 i] w fun e w' => e = .returned (.int .i64 0) ∧ Que w' B M (p ++ q) ∧ But [B, M] w w' := by
  have hr := h.rng i (by simp)
  have hib : I64b i := by unfold I64b; omega
  have hh := has_any i hib w h
  simp only [List.mem_append, List.mem_cons, true_or, or_true, decide_true] at hh
  have hle := h.le
  go_enter Try.func45, Try.ntmps45
  go_wp2_with fail
  refine hh.mono ?_
  rintro e w1 ⟨rfl, hb1⟩
  obtain ⟨g, f, l, hl, k⟩ := h
  obtain ⟨⟨xa, xb⟩, hx⟩ := k.there (i := i) (by simp)
  have hl1 := hl.but hb1 (by simp) (by simp)
  have hlk : ∀ W, But [] w1 W → (Instr.lookup 97 (.map (some M)) (.int .i64 i) false).run Try.prog W = .ok (.agg #[.int .i64 xa, .int .i64 xb]) W := fun W hW => by
    have := (hl1.but hW (by simp) (by simp)).map.look1 hib
    rw [hx] at this
    exact this
  have hcM : ∀ W, But [] w1 W → W.cell? ⟨B, 0, none⟩ = some (.map (some M)) := fun W hW => (hl1.but hW (by simp) (by simp)).cellM
  have r0 : But [] w1 w1.drew := (But.refl _ _).drew
  have r1 : ∀ o, But [] w1 (w1.alloc o).drew := fun o => ((But.refl _ _).alloc _).drew
  have r2 : ∀ o o', But [] w1 ((w1.alloc o).alloc o').drew := fun o o' => (((But.refl _ _).alloc _).alloc _).drew
  have a0 := hlk _ r0
  have a1 := fun o => hlk _ (r1 o)
  have a2 := fun o o' => hlk _ (r2 o o')
  have c0 := hcM _ r0
  have c1 := fun o => hcM _ (r1 o)
  have c2 := fun o o' => hcM _ (r2 o o')
  have hlM := hl1.map.lt
  have nA := two_new w1 (.cells #[.pointer (some ⟨B, 0, none⟩)] 78) (.cells #[.int .i64 xa, .int .i64 xb] 104)
  have nB := two_new w1 (.cells #[.int .i64 xa, .int .i64 xb] 104) (.cells #[.pointer (some ⟨B, 0, none⟩)] 78)
  have rA := r2 (.cells #[.pointer (some ⟨B, 0, none⟩)] 78) (.cells #[.int .i64 xa, .int .i64 xb] 104)
  have rB := r2 (.cells #[.int .i64 xa, .int .i64 xb] 104) (.cells #[.pointer (some ⟨B, 0, none⟩)] 78)
  obtain ⟨wA, tA⟩ := drop_tail (X := w1.heap.size) (Y := w1.heap.size + 1) (hl1.but rA (by simp) (by simp)) k hx nA.1 (cell_of nA.2 rfl) (cell_of nA.2 rfl) (by omega) hle ((hb1.next rA).mono (by simp))
  obtain ⟨wB, tB⟩ := drop_tail (X := w1.heap.size + 1) (Y := w1.heap.size) (hl1.but rB (by simp) (by simp)) k hx nB.2 (cell_of nB.1 rfl) (cell_of nB.1 rfl) (by omega) hle ((hb1.next rB).mono (by simp))
  clear hh hl hl1 k hib hr hle hx hlM hlk hcM r0 r1 r2 nA nB rA rB hb1
  go_upto_region 5 with fail
  go_cut [5, 6] from 15 to 23 (fun x j W => ∃ X Y w3, x = .pointer (some ⟨Y, 0, none⟩) ∧ j = .func (.func 61) #[] #[.pointer (some ⟨X, 0, none⟩)] ∧ Dropped M X Y i xa xb W w3 (fun w' => Que w' B M (p ++ q) ∧ But [B, M] w w') ∧ W.cell? ⟨B, 0, none⟩ = some (.map (some M)))
  case first =>
    go_region_held3 (fun w' => w'.cell? ⟨B, 0, none⟩ = some (.map (some M))) (first | exact c0 | exact c1 _ | exact c2 _ _) ((first | (go_at_call 56; refine (joiner_any _ _).mono ?_; rintro e w' ⟨rfl, rfl⟩)))
    all_goals go_wp2_with fail
    all_goals go_meet
    all_goals first
    | exact ⟨_, _, _, rfl, rfl, tA, c2 _ _⟩
    | exact ⟨_, _, _, rfl, rfl, tB, c2 _ _⟩
  case rest =>
    obtain ⟨X, Y, w3, rfl, rfl, ⟨hd, ha, hb, hj⟩, hc⟩ := hcut
    clear a0 a1 a2 c0 c1 c2 tA tB
    go_wp2_with fail
    refine hj.mono ?_
    rintro e w4 ⟨rfl, hend⟩
    clear hj hd ha hb hc
    go_wp2_with fail
    go_ret
    exact ⟨rfl, hend⟩
def dropE (xs : List Int) (i : Int) : Int := if i ∈ xs then 0 else 3
theorem erase_mid {p q : List Int} {i : Int} (h : i ∉ p) : (p ++ i :: q).erase i = p ++ q := by
  rw [List.erase_append_right _ h, List.erase_cons_head]
theorem drop_any {B M : Nat} {xs : List Int} (i : Int) (hi : I64b i) (w : World) (h : Que w B M xs) :
    Calls Try.prog 45 #[.pointer (some ⟨B, 0, none⟩), .int .i64 i] w fun e w' => e = .returned (.int .i64 (dropE xs i)) ∧ Que w' B M (xs.erase i) ∧ But [B, M] w w' := by
  unfold dropE
  by_cases h2 : i ∈ xs
  · rw [if_pos h2]
    obtain ⟨p, q, rfl⟩ := List.append_of_mem h2
    have hn := h.nd
    rw [List.nodup_append] at hn
    rw [erase_mid (fun hm => hn.2.2 i hm i (by simp) rfl)]
    exact drop_ok i w h
  · rw [if_neg h2, List.erase_of_not_mem h2]
    refine (drop_not i hi w h h2).mono ?_
    rintro e w' ⟨rfl, hb⟩
    exact ⟨rfl, h.fresh hb, hb.mono (by simp)⟩

def popE (xs : List Int) : Int := match xs with
  | [] => 3
  | _ :: _ => 0
end Go.Proofs.Ytkpnkhakjgfgfaa.Lq
