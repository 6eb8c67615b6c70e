/- slices.Equal of a flash's blocks and their copy; Same. -/
import Derived.Test.YteehhbgjjamjiaaUB
import Derived.Laws.StructEq
import Derived.BigQuiet
namespace Go.Proofs.Yteehhbgjjamjiaa
open Go.RowKit

theorem forIn_all {σ : Type} {P : Program} {w : World} (body : Nat → σ → Sem (ForInStep σ)) (s : σ) : ∀ l : List Nat, (∀ i, i ∈ l → (body i s).run P w = .ok (.yield s) w) → (forIn l s body).run P w = .ok s w := by
  intro l
  induction l with
  | nil => intro _; simp
  | cons x l ih =>
    intro h
    rw [List.forIn_cons, Sem.run_bind, h x (by simp)]
    exact ih fun i hi => h i (by simp [hi])

theorem eq_page (d : Nat) (s : Int) (b : ByteArray) (w : World) : (Op.equalIn (d + 2) 78 (.agg #[.int .i64 s, .string b]) (.agg #[.int .i64 s, .string b])).run Try.prog w = .ok true w := by
  have hS : Try.prog.underlying 78 = some (.struct (Try.prog.fieldsOf 78)) := by kernel_rfl
  have hp : Try.prog.stoodInHeld 78 = false := by kernel_rfl
  rw [show d + 2 = (d + 1) + 1 from rfl, run_equalIn_struct w (d + 1) 78 _ _ hS hp]
  simp only [Program.fieldsOf, Try.underlying78]
  simp [Op.eqFields, part, Try.isAgg3, go_sem]

theorem eq_pages (d : Nat) (A : Array Value) (s : Nat → Int) (b : Nat → ByteArray) (w : World) (hA : ∀ j, j < 16 → A.extract (j * 2) (j * 2 + 2) = #[.int .i64 (s j), .string (b j)]) :
    (Op.equalIn (d + 3) 79 (.agg A) (.agg A)).run Try.prog w = .ok true w := by
  rw [show d + 3 = (d + 2) + 1 from rfl, Op.equalIn]
  simp only [Sem.run_bind, run_underlying Try.underlying79, Result.andThen_ok, Try.sizeOf78, Std.Legacy.Range.forIn_eq_forIn_range', Std.Legacy.Range.size, Nat.sub_zero, Nat.add_one_sub_one, Nat.div_one]
  rw [forIn_all]
  · simp
  · intro i hi
    have hi : i < 16 := by simpa using hi
    have hp : (part 78 A (i * 2)).run Try.prog w = .ok (.agg #[.int .i64 (s i), .string (b i)]) w := by
      simp [part, Try.isAgg78, Try.sizeOf78, hA i hi]
    simp [Sem.run_bind, hp, eq_page]

theorem Try.fields81 : Try.prog.underlying 81 = some (.struct (Try.prog.fieldsOf 81)) := by kernel_rfl
theorem Try.stood81 : Try.prog.stoodInHeld 81 = false := by kernel_rfl

theorem p79 (A : Array Value) (w : World) : (part 79 A 0).run Try.prog w = .ok (.agg (A.extract 0 32)) w := by
  rw [part, Sem.run_bind, Try.isAgg79]
  simp only [Result.andThen_ok, if_true, Sem.run_bind, Try.sizeOf79, Sem.run_pure, Nat.zero_add]
theorem p2 (A : Array Value) (x : Int) (w : World) (hx : A[32]? = some (.int .i64 x)) : (part 2 A 32).run Try.prog w = .ok (.int .i64 x) w := by
  rw [part, Sem.run_bind, Try.isAgg2]
  simp only [Result.andThen_ok, Bool.false_eq_true, if_false, hx, Sem.run_pure]
theorem h2x (d : Nat) (A : Array Value) (s : Nat → Int) (b : Nat → ByteArray) (w : World) (hA : ∀ j, j < 16 → A.extract (j * 2) (j * 2 + 2) = #[.int .i64 (s j), .string (b j)]) :
    (Op.equalIn (d + 3) 79 (.agg (A.extract 0 32)) (.agg (A.extract 0 32))).run Try.prog w = .ok true w := by
  refine eq_pages d (A.extract 0 32) s b w ?_
  intro j hj
  rw [Array.extract_extract, Nat.zero_add, Nat.zero_add, Nat.min_eq_left (by omega)]
  exact hA j hj
theorem eq_blk (d : Nat) (A : Array Value) (s : Nat → Int) (b : Nat → ByteArray) (x : Int) (w : World) (hA : ∀ j, j < 16 → A.extract (j * 2) (j * 2 + 2) = #[.int .i64 (s j), .string (b j)]) (hx : A[32]? = some (.int .i64 x)) :
    (Op.equalIn (d + 4) 81 (.agg A) (.agg A)).run Try.prog w = .ok true w := by
  have h2 := h2x d A s b w hA
  have h4 := run_equalIn_int (P := Try.prog) w (d + 2) 2 .i64 .i64 x x Try.underlying2
  rw [show d + 4 = (d + 3) + 1 from rfl, run_equalIn_struct w (d + 3) 81 _ _ Try.fields81 Try.stood81]
  simp only [Program.fieldsOf, Try.underlying81]
  rw [Op.eqFields, if_pos (by decide), Sem.run_bind, p79]
  simp only [Result.andThen_ok, Sem.run_bind, p79, h2, Bool.not_true, Bool.false_eq_true, if_false]
  rw [Op.eqFields, if_pos (by decide), Sem.run_bind, p2 A x w hx]
  simp only [Result.andThen_ok, Sem.run_bind, p2 A x w hx]
  rw [h4]
  simp only [Result.andThen_ok, beq_self_eq_true, Bool.not_true, Bool.false_eq_true, if_false, Op.eqFields, Sem.run_pure]
end Go.Proofs.Yteehhbgjjamjiaa
