/- Twelve bytes are the same as themselves. -/
import Derived.Test.YtbajggmpklajnaaA4
import Derived.ChangeKeysEq
namespace Go.Proofs.Ytbajggmpklajnaa
open Go.RowKit
set_option maxRecDepth 100000

theorem Try.bcells : Try.prog.cellsOf 5 = 1 := by kernel_rfl
theorem Try.info5 : ∃ i, Try.prog.info? 5 = some i := by
  cases h : Try.prog.info? 5 with
  | none => exact absurd (show (Try.prog.info? 5).isSome = true by kernel_rfl) (by rw [h]; simp)
  | some i => exact ⟨i, rfl⟩
theorem part_at {xs : Array Value} {i : Nat} {a : Int} (h : xs[i]? = some (.int .u8 a)) (w : World) : (part 5 xs i).run Try.prog w = .ok (.int .u8 a) w := by
  have := (Array.getElem?_eq_some_iff.1 h)
  obtain ⟨hlt, he⟩ := this
  simp [part, go_sem, hlt, he]
theorem eqItems_self {xs : Array Value} {d : Nat} : ∀ is : List Nat, (∀ i ∈ is, ∃ a, xs[i]? = some (.int .u8 a)) → ∀ w, (Op.eqItems (d + 1) 5 1 xs xs is).run Try.prog w = .ok true w
  | [], _, w => by simp [Op.eqItems]
  | i :: r, h, w => by
    obtain ⟨a, ha⟩ := h i (List.mem_cons_self ..)
    have h1 := part_at ha
    have h2 := fun w : World => run_equalIn_int (P := Try.prog) w d 5 .u8 .u8 a a Try.underlying5
    simp only [Op.eqItems, Sem.run_bind, Nat.mul_one, h1, h2, Result.andThen_ok]
    simp [eqItems_self r (fun j hj => h j (List.mem_cons_of_mem _ hj))]
theorem eql_arr12 {xs : Array Value} (h : ∀ i, i < 12 → ∃ a, xs[i]? = some (.int .u8 a)) (w : World) : (binOp .eql 26 (.agg xs) (.agg xs)).run Try.prog w = .ok (.bool true) w := by
  obtain ⟨i, hi⟩ := Try.info5
  rw [run_eql_struct, show (10000 : Nat) = (9998 + 1) + 1 from rfl, run_equalIn_array w (9998 + 1) xs xs Try.underlying26 hi, Try.bcells, eqItems_self _ (fun i hi => h i (by simpa using hi))]
  rfl
theorem bytesV_at (T R : Int) : ∀ i, i < 12 → ∃ a, (bytesV T R)[i]? = some (.int .u8 a) := fun i hi => by
  rcases (by omega : i = 0 ∨ i = 1 ∨ i = 2 ∨ i = 3 ∨ i = 4 ∨ i = 5 ∨ i = 6 ∨ i = 7 ∨ i = 8 ∨ i = 9 ∨ i = 10 ∨ i = 11) with rfl | rfl | rfl | rfl | rfl | rfl | rfl | rfl | rfl | rfl | rfl | rfl <;> exact ⟨_, rfl⟩
end Go.Proofs.Ytbajggmpklajnaa
