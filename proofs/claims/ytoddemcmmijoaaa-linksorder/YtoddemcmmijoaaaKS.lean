/- Several texts as one. -/
import Derived.Test.YtoddemcmmijoaaaKR
import Derived.Deep.QuietTactic
import Derived.BigQuiet
import Derived.Deep.RegionHeld3

/- Contracts of Blob and bytes.Equal. -/
namespace Go.Proofs.Ytoddemcmmijoaaa
open Go.RowKit
set_option maxRecDepth 100000

theorem str_beq {xs ys : List Int} (hx : Byt xs) (hy : Byt ys) : ((strOf xs).toList == (strOf ys).toList) = decide (xs = ys) := by
  rw [ByteArray.toList_eq, ByteArray.toList_eq, Bool.eq_iff_iff]
  simp only [beq_iff_eq, decide_eq_true_eq]
  constructor
  · intro h
    refine strOf_inj hx hy ?_
    have : (strOf xs).data = (strOf ys).data := Array.toList_inj.1 h
    cases hs : strOf xs
    cases hs' : strOf ys
    rw [hs, hs'] at this
    simp_all
  · rintro rfl; rfl

set_option maxHeartbeats 400000 in
theorem equal_any (av bv : Value) (xs ys : List Int) (w : World) (ha : Sees w .u8 av xs) (hb : Sees w .u8 bv ys) (hx : Byt xs) (hy : Byt ys) :
    Calls Try.prog 62 #[av, bv] w fun e w' => e = .returned (.bool (decide (xs = ys))) ∧ w = w' := by
  have h1 := run_conv_sees (P := Try.prog) w 34 9 5 av xs Try.underlying34 Try.underlying5 Try.underlying9 ha hx
  have h2 := run_conv_sees (P := Try.prog) w 34 9 5 bv ys Try.underlying34 Try.underlying5 Try.underlying9 hb hy
  clear ha hb
  go_enter Try.func62, Try.ntmps62
  go_wp2
  go_ret
  exact ⟨by rw [← str_beq hx hy]; rfl, rfl⟩


theorem sees_one (w : World) (x : Int) : Sees (w.alloc (.cells #[.int .i64 x] 2)) .i64 (.slice (some ⟨w.heap.size, 0, none⟩) 1 1) [x] := sees_new w .i64 [x] 2 1 rfl
theorem apart_one (w : World) (x : Int) (base : Nat) : ∀ a c, (Value.slice (some ⟨w.heap.size, 0, none⟩) 1 1) = .slice (some a) [x].length c → ∀ t, t < [x].length → Apart (w.alloc (.cells #[.int .i64 x] 2)) base (a.add t) := by
  intro a c e t ht
  simp only [Value.slice.injEq, Option.some.injEq] at e
  obtain ⟨rfl, _, _⟩ := e
  obtain rfl : t = 0 := by simp at ht; omega
  exact .inr ⟨_, _, heap_alloc_new w _⟩
theorem I64_one (x : Int) (h1 : -9223372036854775808 ≤ x) (h2 : x ≤ 9223372036854775807) : I64 [x] := by
  intro t ht
  obtain rfl : t = 0 := by simp at ht; omega
  exact ⟨h1, h2⟩

end Go.Proofs.Ytoddemcmmijoaaa

/- Contracts of the reader: next, low, number. -/
namespace Go.Proofs.Ytoddemcmmijoaaa
open Go.RowKit
set_option maxRecDepth 100000

end Go.Proofs.Ytoddemcmmijoaaa
