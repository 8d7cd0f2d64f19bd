/-
  The walks of put, get: the bytes of one number.
-/
import Derived.Test.YtengpehiknoheaaDoorEApp
namespace Go.Proofs.YtengpehiknoheaaDoor
open Go.RowKit Oct

theorem fld_cases {n : Nat} (hn : n < 13) : (n = 8 ∨ n = 9) ∨ (n = 2 ∨ n = 3 ∨ n = 5 ∨ n = 6 ∨ n = 7) ∨ (n = 0 ∨ n = 1 ∨ n = 4 ∨ n = 10 ∨ n = 11 ∨ n = 12) := by omega
/-- What put answers of whatever number. -/
def putG (n : Nat) (v : Int) : List UInt8 := match n with
  | 8 => numL (foldN v)
  | 9 => numL (foldN v)
  | 2 => numL (uns (IntKind.i64.wrap (v + 1)))
  | 3 => numL (uns (IntKind.i64.wrap (v + 1)))
  | 5 => numL (uns (IntKind.i64.wrap (v + 1)))
  | 6 => numL (uns (IntKind.i64.wrap (v + 1)))
  | 7 => numL (uns (IntKind.i64.wrap (v + 1)))
  | _ => numL (uns v)
theorem wrap_b (v : Int) : I64b (IntKind.i64.wrap v) := by unfold I64b; rw [IntKind.wrap_i64]; omega
theorem putG_eq {n : Nat} {v : Int} (hn : n < 13) (hm : mayN n v = true) : putG n v = putN n v := by
  rcases fld_cases hn with h | h | h
  · rcases h with rfl | rfl <;> rfl
  · have hr : -1 ≤ v ∧ v < 1000 := by
      have := may_small hn hm (by omega) (by omega) (by omega)
      omega
    have q1 : IntKind.i64.wrap (v + 1) = v + 1 := by rw [IntKind.wrap_i64]; omega
    rcases h with rfl | rfl | rfl | rfl | rfl <;> simp only [putG, putN, q1]
  · rcases h with rfl | rfl | rfl | rfl | rfl | rfl <;> rfl
theorem putG_len {n : Nat} {v : Int} (hn : n < 13) (hv : I64b v) : 0 < (putG n v).length ∧ (putG n v).length ≤ 10 := by
  have h1 := numL_len10 (foldN_lt hv.1 hv.2)
  have h2 := numL_len10 (uns_lt v hv)
  have h3 := numL_len10 (uns_lt _ (wrap_b (v + 1)))
  rcases fld_cases hn with h | h | h
  · rcases h with rfl | rfl <;> exact ⟨numL_pos _, h1⟩
  · rcases h with rfl | rfl | rfl | rfl | rfl <;> exact ⟨numL_pos _, h3⟩
  · rcases h with rfl | rfl | rfl | rfl | rfl | rfl <;> exact ⟨numL_pos _, h2⟩
set_option maxRecDepth 100000 in
set_option maxHeartbeats 3200000 in
theorem eput_any (n : Nat) (v : Int) (hn : n < 13) (hv : I64b v) (w : World) :
    Calls Tryd.prog 30 #[.int .i64 (n : Int), .int .i64 v] w fun e w' => e = .returned (.string ⟨(putG n v).toArray⟩) ∧ Below w.heap.size w w' := by
  rcases fld_cases hn with h | h | h
  · have hc := int_any v w hv.1 hv.2
    have HP : Hid (putG n v = numL (foldN v)) := Lib.hid (by rcases h with rfl | rfl <;> rfl)
    rw [HP.out]
    obtain ⟨s, hs⟩ : ∃ s : ByteArray, s = ⟨(numL (foldN v)).toArray⟩ := ⟨_, rfl⟩
    rw [← hs] at hc ⊢
    clear hs hv
    rcases h with rfl | rfl <;> (go_enter Tryd.func30, Tryd.ntmps30; go_wp2_with fail; refine hc.mono ?_; rintro e w1 ⟨rfl, hb⟩; go_wp2_with fail; go_ret; exact ⟨rfl, hb⟩)
  · obtain ⟨y, hy⟩ : ∃ y, y = IntKind.i64.wrap (v + 1) := ⟨_, rfl⟩
    have hyb : I64b y := by rw [hy]; exact wrap_b _
    have q1 : IntKind.i64.wrap (v + 1) = y := hy.symm
    have q2 : IntKind.u64.wrap y = (uns y : Int) := wrap_uns hyb
    have hc := num_any (uns y) w (uns_lt _ hyb)
    have HP : Hid (putG n v = numL (uns y)) := Lib.hid (by rw [hy]; rcases h with rfl | rfl | rfl | rfl | rfl <;> rfl)
    rw [HP.out]
    obtain ⟨s, hs⟩ : ∃ s : ByteArray, s = ⟨(numL (uns y)).toArray⟩ := ⟨_, rfl⟩
    rw [← hs] at hc ⊢
    generalize uns y = z at q2 hc
    clear hy hyb
    clear hs hv
    rcases h with rfl | rfl | rfl | rfl | rfl <;> (go_enter Tryd.func30, Tryd.ntmps30; go_wp2_with fail; refine hc.mono ?_; rintro e w1 ⟨rfl, hb⟩; go_wp2_with fail; go_ret; exact ⟨rfl, hb⟩)
  · have q2 : IntKind.u64.wrap v = (uns v : Int) := wrap_uns hv
    have hc := num_any (uns v) w (uns_lt _ hv)
    have HP : Hid (putG n v = numL (uns v)) := Lib.hid (by rcases h with rfl | rfl | rfl | rfl | rfl | rfl <;> rfl)
    rw [HP.out]
    obtain ⟨s, hs⟩ : ∃ s : ByteArray, s = ⟨(numL (uns v)).toArray⟩ := ⟨_, rfl⟩
    rw [← hs] at hc ⊢
    generalize uns v = z at q2 hc
    clear hs hv
    rcases h with rfl | rfl | rfl | rfl | rfl | rfl <;> (go_enter Tryd.func30, Tryd.ntmps30; go_wp2_with fail; refine hc.mono ?_; rintro e w1 ⟨rfl, hb⟩; go_wp2_with fail; go_ret; exact ⟨rfl, hb⟩)

def GetNV (n : Nat) (l : List UInt8) : Value := .tuple #[.int .i64 (getN n l).1, .string ⟨(getN n l).2.1.toArray⟩, .int .i64 ((getN n l).2.2 : Int)]
theorem ret_getN {n : Nat} {l : List UInt8} {a : Int} {r : ByteArray} {e : Nat} (h : getN n l = (a, r.data.toList, e)) : Ending.returned (.tuple #[.int .i64 a, .string r, .int .i64 (e : Int)]) = .returned (GetNV n l) := by
  rw [GetNV, h]
set_option maxRecDepth 100000 in
set_option maxHeartbeats 3200000 in
theorem eget_any (n : Nat) (l : List UInt8) (hn : n < 13) (hl : l.length ≤ maxLen) (w : World) :
    Calls Tryd.prog 55 #[.string ⟨l.toArray⟩, .int .i64 (n : Int)] w fun e w' => e = .returned (GetNV n l) ∧ Below w.heap.size w w' := by
  have hg := get_any ⟨l.toArray⟩ w (by rw [size_l]; exact hl)
  have hgi := getInt_any ⟨l.toArray⟩ w (by rw [size_l]; exact hl)
  rw [data_l] at hg hgi
  unfold GetV at hg
  unfold GetIntV at hgi
  have hu := getR_lt l
  obtain ⟨u, r, e, hr⟩ : ∃ u r e, getR l = (u, r, e) := ⟨_, _, _, rfl⟩
  rw [hr] at hg hgi hu
  simp only at hg hgi hu
  obtain ⟨rs, hrs⟩ : ∃ rs : ByteArray, rs = ⟨r.toArray⟩ := ⟨_, rfl⟩
  obtain ⟨s, hs⟩ : ∃ s : ByteArray, s = ⟨l.toArray⟩ := ⟨_, rfl⟩
  rw [← hrs, ← hs] at hg hgi
  rw [← hs]
  have er : rs.data.toList = r := by rw [hrs]
  rcases fld_cases hn with h | h | h
  · have HP : Hid (getN n l = (backI u, rs.data.toList, e)) := Lib.hid (by rw [er]; rcases h with rfl | rfl <;> simp only [getN, hr])
    generalize backI u = z at hgi HP
    clear hg hr hu hrs hs er
    rcases h with rfl | rfl <;> (go_enter Tryd.func55, Tryd.ntmps55; go_wp2_with fail; refine hgi.mono ?_; rintro e w1 ⟨rfl, hb⟩; go_wp2_with fail; go_ret3; exact ⟨ret_getN HP.out, hb⟩)
  · have HP : Hid (getN n l = (sgn (uns ((u : Int) - 1)), rs.data.toList, e)) := Lib.hid (by rw [er]; rcases h with rfl | rfl | rfl | rfl | rfl <;> simp only [getN, hr])
    have q1 : IntKind.u64.wrap ((u : Int) - 1) = (uns ((u : Int) - 1) : Int) := by rw [IntKind.wrap_u64]; unfold uns; split <;> omega
    have q2 : IntKind.i64.wrap (uns ((u : Int) - 1) : Int) = sgn (uns ((u : Int) - 1)) := wrap_sgn (by unfold uns; split <;> omega)
    generalize sgn (uns ((u : Int) - 1)) = z at q2 HP
    generalize uns ((u : Int) - 1) = y at q1 q2
    clear hgi hr hu hrs hs er
    rcases h with rfl | rfl | rfl | rfl | rfl <;> (go_enter Tryd.func55, Tryd.ntmps55; go_wp2_with fail; refine hg.mono ?_; rintro e w1 ⟨rfl, hb⟩; go_wp2_with fail; go_ret3; exact ⟨ret_getN HP.out, hb⟩)
  · have HP : Hid (getN n l = (sgn u, rs.data.toList, e)) := Lib.hid (by rw [er]; rcases h with rfl | rfl | rfl | rfl | rfl | rfl <;> simp only [getN, hr])
    have q2 : IntKind.i64.wrap (u : Int) = sgn u := wrap_sgn hu
    generalize sgn u = z at q2 HP
    clear hgi hr hu hrs hs er
    rcases h with rfl | rfl | rfl | rfl | rfl | rfl <;> (go_enter Tryd.func55, Tryd.ntmps55; go_wp2_with fail; refine hg.mono ?_; rintro e w1 ⟨rfl, hb⟩; go_wp2_with fail; go_ret3; exact ⟨ret_getN HP.out, hb⟩)
end Go.Proofs.YtengpehiknoheaaDoor
