/-
  One lock on two cells: what is drawn, asked and given; a row of tickets.
-/
import Derived.Test.YtednclgfgekgbaaTAlive
namespace Go.Proofs.Ytednclgfgekgbaa
open Go.RowKit

theorem up_eq {a : Nat} (h : a < 18446744073709551615) : up a = a + 1 := by unfold up; omega
theorem write_at {B V c c' : Nat} {vs vs' : List Nat} {i : Int} {y : Nat} (w : World) (hC : Cels w B V vs c) (h1 : -9223372036854775808 ≤ i) (h2 : i ≤ 9223372036854775807) (hy : y < 18446744073709551616) (H : Hid (putAt vs i y = vs' ∧ countUp vs.length c i = c')) :
    Calls Try.prog 18 #[.pointer (some ⟨B, 0, none⟩), .int .i64 i, .int .u64 (y : Int)] w fun e w' => e = .returned (.tuple #[]) ∧ Cels w' B V vs' c' ∧ But [B, V] w w' := by
  obtain ⟨rfl, rfl⟩ := H.out
  exact cell_write i y w hC h1 h2 hy

theorem in1 : inRow 1 0 = true := by decide
theorem nth0 (a b : Nat) : nth [a, b] (nextAt 0 (0 : Int).toNat) = a := rfl
theorem nth1 (a b : Nat) : nth [a, b] (servedAt 0 (0 : Int).toNat) = b := rfl
theorem drawE2 (a b : Nat) : drawE 0 1 [a, b] 0 = tick a := by rw [drawE, in1, if_pos rfl, nth0]
theorem drawV2 (a b : Nat) : drawV 0 1 [a, b] 0 = [up a, b] := by rw [drawV, in1, if_pos rfl, nth0]; rfl
theorem giveV2 (a b : Nat) : giveV 0 1 [a, b] 0 = [a, up b] := by rw [giveV, in1, if_pos rfl, nth1]; rfl
theorem mineE2 (a b t : Nat) : mineE 0 1 [a, b] 0 t = decide (tick b = t) := by rw [mineE, in1, Bool.true_and, nth1]
theorem waitE2 (a b : Nat) : waitE 0 1 [a, b] 0 = tick (minus a b) := by rw [waitE, in1, if_pos rfl, nth0, nth1]
theorem freeE2 (a b : Nat) : freeE 0 1 [a, b] 0 = decide (tick (minus a b) = 0) := by rw [freeE, in1, Bool.true_and, waitE2]
theorem countUp2 (c : Nat) : countUp 1 c 0 = up c := by rw [countUp, in1, if_pos rfl]
theorem draw2 {L P Q B V a b c : Nat} (w : World) (h : Lks w L P Q B 0 1) (hC : Cels w B V [a, b] c) (ha : a < 18446744073709551615) (hc : c < 18446744073709551615) :
    Calls Try.prog 9 #[.pointer (some ⟨L, 0, none⟩), .int .i64 0] w fun e w' => e = .returned (.int .u16 (tick a : Int)) ∧ Cels w' B V [a + 1, b] (c + 1) ∧ But [B, V] w w' :=
  draw_at w h hC (by simp) (Lib.hid ⟨by rw [drawE2], by rw [drawV2, up_eq ha], by rw [countUp2, up_eq hc]⟩)
theorem give2 {L P Q B V a b c : Nat} (w : World) (h : Lks w L P Q B 0 1) (hC : Cels w B V [a, b] c) (hb : b < 18446744073709551615) (hc : c < 18446744073709551615) :
    Calls Try.prog 7 #[.pointer (some ⟨L, 0, none⟩), .int .i64 0] w fun e w' => e = .returned (.tuple #[]) ∧ Cels w' B V [a, b + 1] (c + 1) ∧ But [B, V] w w' :=
  give_at w h hC (by simp) (Lib.hid ⟨by rw [giveV2, up_eq hb], by rw [countUp2, up_eq hc]⟩)
theorem mine2 {L P Q B V a b c : Nat} {x : Bool} (t : Nat) (w : World) (h : Lks w L P Q B 0 1) (hC : Cels w B V [a, b] c) (hc : c < 18446744073709551615) (hx : Hid (decide (tick b = t) = x)) :
    Calls Try.prog 10 #[.pointer (some ⟨L, 0, none⟩), .int .i64 0, .int .u16 (t : Int)] w fun e w' => e = .returned (.bool x) ∧ Cels w' B V [a, b] (c + 1) ∧ But [B, V] w w' := by
  obtain rfl := hx.out
  exact mine_at w h hC (by simp) (Lib.hid ⟨rfl, mineE2 a b t, by rw [countUp2, up_eq hc]⟩)
theorem free2 {L P Q B V a b c : Nat} {x : Bool} (w : World) (h : Lks w L P Q B 0 1) (hC : Cels w B V [a, b] c) (hx : Hid (decide (tick (minus a b) = 0) = x)) :
    Calls Try.prog 11 #[.pointer (some ⟨L, 0, none⟩), .int .i64 0] w fun e w' => e = .returned (.bool x) ∧ ∃ m, w' = w.drewN m := by
  obtain rfl := hx.out
  exact free_at w h hC (by simp) (Lib.hid (freeE2 a b))

/-! ### Tickets in a row -/
def U16 (xs : List Nat) : List Value := xs.map fun (x : Nat) => Value.int .u16 (x : Int)
theorem U16_snoc (xs : List Nat) (x : Nat) : U16 (xs ++ [x]) = U16 xs ++ [.int .u16 (x : Int)] := by simp [U16]
def ticks (f k : Nat) : List Nat := (List.range k).map fun j => tick (f + j)
theorem ticks_succ (f k : Nat) : ticks f (k + 1) = ticks f k ++ [tick (f + k)] := by simp [ticks, List.range_succ]
theorem ticks_get {f k j : Nat} (h : j < k) : (U16 (ticks f k))[j]? = some (.int .u16 (tick (f + j) : Int)) := by
  simp [U16, ticks, List.getElem?_map, List.getElem?_range h]
theorem infoU16 : (Try.prog.info? 30).map (fun i => (i.zero, i.size, i.bytes)) = some (some (.int .u16 0), 1, 2) := by kernel_rfl

theorem row_block {W : World} {base : Nat} {e : TypeId} {size : Nat} {v : Value} {k : Nat} {xs : List Value} (h : W.ownsRow base e size v k xs) {g : Nat} (hg : v.ownBlock = some g) : ∃ cs z, W.heap[g]? = some (Obj.cells cs e z) := by
  rcases h.2 with ⟨rfl, _⟩ | ⟨g', cap, cur, rfl, _, hgb, _⟩
  · simp [Value.ownBlock] at hg
  · obtain rfl : g' = g := by simpa [Value.ownBlock] using hg
    exact ⟨_, _, hgb⟩
/-- What turns cells leaves a row of another type. -/
theorem row_cels {W W' : World} {base : Nat} {e : TypeId} {size : Nat} {v : Value} {k : Nat} {xs : List Value} (h : W.ownsRow base e size v k xs) {B V : Nat} {vs : List Nat} {c : Nat} (hC : Cels W B V vs c) (hb : But [B, V] W W') (h1 : e ≠ 66) (h2 : e ≠ 41) : W'.ownsRow base e size v k xs := by
  refine hb.row h fun g hg => ?_
  obtain ⟨cs, z, hgb⟩ := row_block h hg
  simpa using ⟨type_ne hgb hC.head h1, type_ne hgb hC.row h2⟩
/-- What appends to a row of another type leaves cells and locks. -/
theorem cels_row {W W' : World} {base : Nat} {e : TypeId} {size : Nat} {v : Value} {k : Nat} {xs : List Value} (h : W.ownsRow base e size v k xs) (hg : W.grownBy W' v.ownBlock) {B V : Nat} {vs : List Nat} {c : Nat} (hC : Cels W B V vs c) (h1 : 66 ≠ e) (h2 : 41 ≠ e) : Cels W' B V vs c :=
  hC.of_blocks (hg.block B hC.ltB (fun e => by obtain ⟨cs, z, hgb⟩ := row_block h e.symm; exact type_ne hC.head hgb h1 rfl)) (hg.block V hC.ltV (fun e => by obtain ⟨cs, z, hgb⟩ := row_block h e.symm; exact type_ne hC.row hgb h2 rfl))
theorem lks_row {W W' : World} {base : Nat} {e : TypeId} {size : Nat} {v : Value} {k : Nat} {xs : List Value} (h : W.ownsRow base e size v k xs) (hg : W.grownBy W' v.ownBlock) {L P Q B b n : Nat} (hL : Lks W L P Q B b n) (h1 : 64 ≠ e) (h2 : 3 ≠ e) : Lks W' L P Q B b n :=
  ⟨(hg.block L hL.ltL (fun e => by obtain ⟨cs, z, hgb⟩ := row_block h e.symm; exact type_ne hL.head hgb h1 rfl)).trans hL.head,
   (hg.block P hL.boxN.lt (fun e => by obtain ⟨cs, z, hgb⟩ := row_block h e.symm; exact type_ne hL.boxN hgb h2 rfl)).trans hL.boxN,
   (hg.block Q hL.boxB.lt (fun e => by obtain ⟨cs, z, hgb⟩ := row_block h e.symm; exact type_ne hL.boxB hgb h2 rfl)).trans hL.boxB, hL.most, hL.room⟩
theorem row_but {w W W' : World} {e : TypeId} {size : Nat} {v : Value} {k : Nat} {xs : List Value} (hb : But [] w W) (h : W.ownsRow w.heap.size e size v k xs) (hg : W.grownBy W' v.ownBlock) : But [] w W' := by
  cases hv : v.ownBlock with
  | none => rw [hv] at hg; exact hb.next (.of_none hg [])
  | some g =>
    rw [hv] at hg
    refine hb.trans (.of_some hg (S := [g]) (by simp)) ?_
    rcases h.2 with ⟨rfl, _⟩ | ⟨g', cap, cur, rfl, hle, hgb, _⟩
    · simp [Value.ownBlock] at hv
    · obtain rfl : g' = g := by simpa [Value.ownBlock] using hv
      simp; omega
theorem row_grown {W W' : World} {v : Value} {tmp : Obj} (hg : (W.alloc tmp).grownBy W' v.ownBlock) : W.grownBy W' v.ownBlock := (World.grownBy_alloc W tmp _).trans hg
end Go.Proofs.Ytednclgfgekgbaa
