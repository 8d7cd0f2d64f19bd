/-
  The walks of octet.put and octet.Num.
-/
import Derived.Test.YtengpehiknoheaaDoorRows
import Derived.Test.YtengpehiknoheaaDoorMath
import Derived.WalkKit
import Derived.WalkLawsBesides
import Derived.WalkSpells
import Derived.Outline
import Derived.Lib.Hide
namespace Go.Proofs.YtengpehiknoheaaDoor
open Go.RowKit Oct

/-- The bytes of a number, as the model has bytes. -/
def numI (v : Nat) : List Int := (numL v).map fun b => (b.toNat : Int)
def bytesV (l : List Int) : List Value := l.map (Value.int .u8)

theorem info5 : (Tryd.prog.info? 5).map (fun i => (i.zero, i.size, i.bytes)) = some (some (.int .u8 0), 1, 1) := by kernel_rfl

theorem wrap_u8 (u : Nat) : IntKind.u8.wrap (u : Int) = ((u % 256 : Nat) : Int) := by rw [IntKind.wrap_u8]; omega
theorem or128 (a : Nat) (ha : a < 256) : bits .or .u8 (a : Int) 128 = ((a % 128 + 128 : Nat) : Int) := by
  have key : ∀ a < 256, bits .or .u8 ((a : Nat) : Int) 128 = ((a % 128 + 128 : Nat) : Int) := by decide +kernel
  exact key a ha
theorem low8 (u : Nat) : bits .or .u8 (IntKind.u8.wrap (u : Int)) 128 = ((u % 128 + 128 : Nat) : Int) := by
  rw [wrap_u8, or128 _ (by omega)]; congr 2; omega
theorem numI_big {u : Nat} (h : 128 ≤ u) : numI u = (((u % 128 + 128 : Nat) : Int)) :: numI (u / 128) := by
  unfold numI; rw [numL_big (by omega), List.map_cons, toNat_ofNat_lt (by omega)]
theorem numI_small {u : Nat} (h : u < 128) : numI u = [(u : Int)] := by
  unfold numI; rw [numL_small h, List.map_cons, toNat_ofNat_lt (by omega)]; rfl
theorem numI_len (u : Nat) (h : u < 18446744073709551616) : (numI u).length ≤ 10 := by unfold numI; rw [List.length_map]; exact numL_len10 h
theorem bytesV_snoc (pre : List Int) (x : Int) : bytesV (pre ++ [x]) = bytesV pre ++ [.int .u8 x] := by simp [bytesV]

set_option maxHeartbeats 400000 in
theorem put_any (base : Nat) (vb : Value) (xs : List Int) (v : Nat) (w : World) (hv : v < 18446744073709551616) (hlen : xs.length ≤ 1000000) (hbase : base ≤ w.heap.size)
    (hown : w.ownsRow base 5 1 vb xs.length (bytesV xs)) :
    Calls Tryd.prog 48 #[vb, .int .u64 v] w fun e w' => ∃ v', e = .returned v' ∧ w'.ownsRow base 5 1 v' (xs ++ numI v).length (bytesV (xs ++ numI v)) ∧ Below base w w' := by
  obtain ⟨i0, hi, hz0, hz1, hz2⟩ := info_parts info5
  go_enter Tryd.func48, Tryd.ntmps48
  go_wp2_with fail
  go_loopw [0, 1] (fun b uv wr => ∃ (u : Nat) (pre : List Int), uv = .int .u64 u ∧ u < 18446744073709551616 ∧ wr.ownsRow base 5 1 b pre.length (bytesV pre) ∧ Hid (pre ++ numI u = xs ++ numI v) ∧ Below base w wr) (fun _ uv _ => (intOf uv).toNat)
  case atStart => exact ⟨v, xs, rfl, hv, hown, rfl, Below.refl _ _⟩
  case round =>
    obtain ⟨u, pre, rfl, hu, hown1, HE, hb⟩ := hrel
    clear hown
    have hbw : base ≤ wr.heap.size := Nat.le_trans hbase hb.size
    have hpl : pre.length ≤ 1000010 := by
      have h1 := congrArg List.length HE.out
      have h2 := numI_len v hv
      simp at h1; omega
    by_cases hge : 128 ≤ u
    · have hge' : (128 : Int) ≤ (u : Int) := by omega
      go_wp2_with (at_builtin; refine wpList_append_own _ rfl _ _ 49 rfl base 5 i0 (.int .u8 0) 1 1 Tryd.underlying49 hi hz0 hz1 hz2 rfl (by decide) _ _ _ rfl (hown1.alloc _) ⟨wr.heap.size, 0, none⟩ 1 1 [.int .u8 (bits .or .u8 (IntKind.u8.wrap (u : Int)) 128)] rfl rfl ?c1 ?c2 ?c3 ?c4 ?c5 ?_)
      case c1 => exact cell_one_new _ _ _
      case c2 => first | rfl | (intro x hx; simp at hx; subst hx; rfl)
      case c3 => unfold maxLen; omega
      case c4 => omega
      case c5 => first | omega | (simp; omega)
      intro v' w1 hown' hgrow _
      have hb1 : Below base w w1 := (hb.alloc hbw _).grown hgrow (by simp; omega) (fun k hk => by have := (hown1.lt k hk).1; omega)
      have H1 : Hid (bytesV pre ++ [.int .u8 (bits .or .u8 (IntKind.u8.wrap (u : Int)) 128)] = bytesV (pre ++ [((u % 128 + 128 : Nat) : Int)])) := Lib.hid (by rw [low8, bytesV_snoc])
      have H2 : Hid ((pre ++ [((u % 128 + 128 : Nat) : Int)]) ++ numI (u / 128) = xs ++ numI v) := Lib.hid (by rw [← HE.out, numI_big hge, List.append_assoc]; rfl)
      go_wp2_with fail
      go_roundw
      case rel => exact ⟨u / 128, _, by go_num, by omega, by rw [H1.out] at hown'; simpa using hown', H2, hb1⟩
      case measure => simp [intOf]; omega
    · have hge' : ¬ (128 : Int) ≤ (u : Int) := by omega
      have hlt8 : (u : Int) ≤ 127 := by omega
      go_wp2_with (at_builtin; refine wpList_append_own _ rfl _ _ 49 rfl base 5 i0 (.int .u8 0) 1 1 Tryd.underlying49 hi hz0 hz1 hz2 rfl (by decide) _ _ _ rfl (hown1.alloc _) ⟨wr.heap.size, 0, none⟩ 1 1 [.int .u8 (u : Int)] rfl rfl ?c1 ?c2 ?c3 ?c4 ?c5 ?_)
      case c2 => first | rfl | (intro x hx; simp at hx; subst hx; rfl)
      case c3 => unfold maxLen; omega
      case c4 => omega
      case c5 => first | omega | (simp; omega)
      intro v' w1 hown' hgrow _
      have hb1 : Below base w w1 := (hb.alloc hbw _).grown hgrow (by simp; omega) (fun k hk => by have := (hown1.lt k hk).1; omega)
      have H1 : Hid (bytesV pre ++ [.int .u8 (u : Int)] = bytesV (pre ++ [(u : Int)])) := Lib.hid (bytesV_snoc _ _).symm
      have H2 : Hid (pre ++ [(u : Int)] = xs ++ numI v) := Lib.hid (by rw [← HE.out, numI_small (by omega)])
      go_wp2_with fail
      go_ret
      refine ⟨_, rfl, ?_, hb1⟩
      rw [← H2.out, ← H1.out]
      simpa using hown'

theorem foldl_push (ns : List Int) : ∀ (s : ByteArray), ns.foldl (fun r n => r.push (UInt8.ofNat n.toNat)) s = ⟨(s.data.toList ++ ns.map fun n => UInt8.ofNat n.toNat).toArray⟩ := by
  induction ns with
  | nil => intro s; simp
  | cons n ns ih => intro s; rw [List.foldl_cons, ih]; simp [ByteArray.push]

theorem add_head (g j : Nat) : Addr.add ⟨g, 0, none⟩ j = ⟨g, j, none⟩ := by
  by_cases h : j = 0
  · subst h; simp [Addr.add]
  · simp [Addr.add, h]

/-- An owned row of bytes as a string. -/
theorem conv_own (base : Nat) (v : Value) (xs : List Int) (w : World) (h : w.ownsRow base 5 1 v xs.length (bytesV xs)) :
    (convert 49 9 v).run Tryd.prog w = .ok (.string ⟨(xs.map fun n => UInt8.ofNat n.toNat).toArray⟩) w := by
  obtain ⟨_, h2⟩ := id h
  rcases h2 with ⟨rfl, hz⟩ | ⟨g, cap, cur, rfl, _⟩
  · have : xs = [] := List.length_eq_zero_iff.mp hz
    subst this
    rw [run_convert_bytes_string w _ _ _ _ _ _ Tryd.underlying49 Tryd.underlying5 Tryd.underlying9]
    rfl
  · rw [run_convert_bytes_string w _ _ _ _ _ _ Tryd.underlying49 Tryd.underlying5 Tryd.underlying9]
    rw [run_bytesToString w ⟨g, 0, none⟩ xs.length cap xs, foldl_push]
    · rfl
    · have := run_loadCells_list (P := Tryd.prog) (w := w) ⟨g, 0, none⟩ (bytesV xs) (fun j v hj => by
        have hl : j < (bytesV xs).length := (List.getElem?_eq_some_iff.mp hj).1
        have := h.cellAt j (by simpa [bytesV] using hl)
        rw [hj] at this
        rw [add_head]; exact this)
      simpa [bytesV] using this

theorem numI_back (v : Nat) : ((numI v).map fun n => UInt8.ofNat n.toNat) = numL v := by
  unfold numI
  rw [List.map_map]
  exact (List.map_congr_left (fun b _ => by simp)).trans (List.map_id _)

theorem num_any (v : Nat) (w : World) (hv : v < 18446744073709551616) :
    Calls Tryd.prog 50 #[.int .u64 v] w fun e w' => e = .returned (.string ⟨(numL v).toArray⟩) ∧ Below w.heap.size w w' := by
  go_enter Tryd.func50, Tryd.ntmps50
  go_wp2_with fail
  refine (put_any w.heap.size _ [] v _ hv (by simp) (Nat.le_refl _) (World.ownsRow_nil _ _ _ _)).mono ?_
  rintro e w1 ⟨v', rfl, hown, hb⟩
  have hconv := conv_own _ _ _ _ hown
  rw [List.nil_append, numI_back] at hconv
  clear hown
  go_wp2_with fail
  go_ret
  exact ⟨rfl, hb⟩
end Go.Proofs.YtengpehiknoheaaDoor
