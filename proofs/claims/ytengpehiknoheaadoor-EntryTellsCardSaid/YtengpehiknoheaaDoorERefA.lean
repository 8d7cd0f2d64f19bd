/-
  The walks of what the document's answer is made of: what a kind names, the words, bounds.
-/
import Derived.Test.YtengpehiknoheaaDoorEPure
import Derived.Test.YtengpehiknoheaaDoorEBase
import Derived.Test.YtengpehiknoheaaDoorESmall
namespace Go.Proofs.YtengpehiknoheaaDoor
open Go.RowKit Go.Shelf

attribute [local go_sem] Oper.semAt_some

def nWorker : Nat → Bool
  | 21 | 22 | 23 | 24 | 25 | 26 => true
  | _ => false
def nTask : Nat → Bool
  | 1 | 2 | 3 | 4 | 5 | 6 | 7 | 8 | 9 | 10 | 11 | 21 | 22 | 23 | 24 | 25 => true
  | _ => false
def nPeer : Nat → Bool
  | 3 | 4 | 6 | 9 | 11 => true
  | _ => false
def nCh : Nat → Bool
  | 1 | 2 | 3 | 4 | 5 | 6 => true
  | _ => false
def nCase : Nat → Bool
  | 1 | 2 | 3 | 4 | 6 | 9 => true
  | _ => false
def nPeerCase : Nat → Bool
  | 3 | 4 => true
  | _ => false
def nVal : Nat → Bool
  | 1 | 2 | 3 | 4 => true
  | _ => false
def nVal2 : Nat → Bool
  | 4 => true
  | _ => false
def nOk : Nat → Bool
  | 2 | 3 => true
  | _ => false
def nCode : Nat → Bool
  | 11 => true
  | _ => false
def nSet : Nat → Bool
  | 25 => true
  | _ => false
/-- What a kind names, as the document's answer has it. -/
def ndV (k : Nat) : Value := .agg #[.bool (nWorker k), .bool (nTask k), .bool (nPeer k), .bool (nCh k), .bool (nCase k), .bool (nPeerCase k), .bool (nVal k), .bool (nVal2 k), .bool (nOk k), .bool (nCode k), .bool (nSet k)]
theorem kinds18 (k : Nat) : (k = 1 ∨ k = 2 ∨ k = 3 ∨ k = 4 ∨ k = 5 ∨ k = 6 ∨ k = 7 ∨ k = 8 ∨ k = 9 ∨ k = 10 ∨ k = 11 ∨ k = 21 ∨ k = 22 ∨ k = 23 ∨ k = 24 ∨ k = 25 ∨ k = 26) ∨ (known k = false ∧ ndV k = .agg #[.bool false, .bool false, .bool false, .bool false, .bool false, .bool false, .bool false, .bool false, .bool false, .bool false, .bool false] ∧ ((k : Int) == 1) = false ∧ ((k : Int) == 2) = false ∧ ((k : Int) == 3) = false ∧ ((k : Int) == 4) = false ∧ ((k : Int) == 5) = false ∧ ((k : Int) == 6) = false ∧ ((k : Int) == 7) = false ∧ ((k : Int) == 8) = false ∧ ((k : Int) == 9) = false ∧ ((k : Int) == 10) = false ∧ ((k : Int) == 11) = false ∧ ((k : Int) == 21) = false ∧ ((k : Int) == 22) = false ∧ ((k : Int) == 23) = false ∧ ((k : Int) == 24) = false ∧ ((k : Int) == 25) = false ∧ ((k : Int) == 26) = false) := by
  by_cases h : known k = true
  · exact .inl (known_cases h)
  · have hf : known k = false := by simpa using h
    have hn := known_out hf
    refine .inr ⟨hf, ?_, ?_, ?_, ?_, ?_, ?_, ?_, ?_, ?_, ?_, ?_, ?_, ?_, ?_, ?_, ?_, ?_, ?_⟩
    · have e : nWorker k = false ∧ nTask k = false ∧ nPeer k = false ∧ nCh k = false ∧ nCase k = false ∧ nPeerCase k = false ∧ nVal k = false ∧ nVal2 k = false ∧ nOk k = false ∧ nCode k = false ∧ nSet k = false := by
        refine ⟨?_, ?_, ?_, ?_, ?_, ?_, ?_, ?_, ?_, ?_, ?_⟩
        all_goals first | (unfold nWorker; split <;> first | rfl | omega) | (unfold nTask; split <;> first | rfl | omega) | (unfold nPeer; split <;> first | rfl | omega) | (unfold nCh; split <;> first | rfl | omega) | (unfold nCase; split <;> first | rfl | omega) | (unfold nPeerCase; split <;> first | rfl | omega) | (unfold nVal; split <;> first | rfl | omega) | (unfold nVal2; split <;> first | rfl | omega) | (unfold nOk; split <;> first | rfl | omega) | (unfold nCode; split <;> first | rfl | omega) | (unfold nSet; split <;> first | rfl | omega)
      obtain ⟨e0, e1, e2, e3, e4, e5, e6, e7, e8, e9, e10⟩ := e
      unfold ndV
      rw [e0, e1, e2, e3, e4, e5, e6, e7, e8, e9, e10]
    all_goals (rw [beq_eq_false_iff_ne]; omega)

set_option maxRecDepth 100000 in
set_option maxHeartbeats 1600000 in
theorem rof_any (k : Nat) (w : World) :
    Calls Tryd.prog 25 #[.int .u8 (k : Int)] w fun e w' => e = .returned (ndV k) ∧ But [] w w' := by
  have hb : ∀ o, But [] w (w.alloc o) := fun o => (But.refl [] w).alloc o
  go_enter Tryd.func25, Tryd.ntmps25
  rcases kinds18 k with h | ⟨hf, hV, q0, q1, q2, q3, q4, q5, q6, q7, q8, q9, q10, q11, q12, q13, q14, q15, q16⟩
  · rcases h with rfl | rfl | rfl | rfl | rfl | rfl | rfl | rfl | rfl | rfl | rfl | rfl | rfl | rfl | rfl | rfl | rfl
    all_goals go_wp2_with fail
    all_goals exact bodyPost_ret (by simp [results, Tryd.f25, go_sem]; all_goals trivial) rfl ⟨rfl, hb _⟩
  · rw [hV]
    go_wp2_with fail
    exact bodyPost_ret (by simp [results, Tryd.f25, go_sem]) rfl ⟨rfl, hb _⟩
end Go.Proofs.YtengpehiknoheaaDoor
