/- No bytes are bytes. -/
import Derived.Test.YtggllgimlfchhaaGreatMem
namespace Go.Proofs.YtggllgimlfchhaaGreat
open Go.RowKit

theorem byt_nil : Byt [] := fun b hb => by cases hb
end Go.Proofs.YtggllgimlfchhaaGreat
