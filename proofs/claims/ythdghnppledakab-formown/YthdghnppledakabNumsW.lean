/- FormNums' walk. -/
import Derived.Test.YthdghnppledakabWB
import Derived.Test.YthdghnppledakabR0
namespace Go.Proofs.Ythdghnppledakab
open Go.RowKit

theorem equal_same (av bv : Value) (xs : List Int) (w : World) (ha : Sees w .u8 av xs) (hb : Sees w .u8 bv xs) (hx : Byt xs) :
    Calls Try.prog 10 #[av, bv] w fun e w' => e = .returned (.bool true) ∧ w = w' := by
  refine (equal_any av bv xs xs w ha hb hx hx).mono ?_
  rintro e w' ⟨rfl, rfl⟩
  exact ⟨by simp, rfl⟩

theorem putL_byte (l : List Int) : Byt (putL l) := by
  induction l with
  | nil => intro b hb; cases hb
  | cons x r ih => exact Byt.append (numB_byte x) ih

end Go.Proofs.Ythdghnppledakab
