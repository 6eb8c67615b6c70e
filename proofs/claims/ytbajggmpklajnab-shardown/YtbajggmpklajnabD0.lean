/- live: answers that the document fixes. -/
import Derived.Test.YtbajggmpklajnabA4
import Derived.Test.YtbajggmpklajnabB1
import Derived.Test.YtbajggmpklajnabC2
namespace Go.Proofs.Ytbajggmpklajnab
open Go.RowKit
set_option maxRecDepth 100000

abbrev three : Array Value := #[.int .i32 0, .int .i64 2, .int .i32 0, .int .i64 1, .int .i32 0, .int .i64 2]
theorem sees_three (w : World) : SeesL kC 2 (w.alloc (.cells three 27)) (.slice (some ⟨w.heap.size, 0, none⟩) 3 3) [(0, 2), (0, 1), (0, 2)] := by
  refine ⟨_, 3, w.heap.size, 0, rfl, by simp, by simp, (fun h => by cases h), fun _ => rfl, fun t x hx j hj => ?_⟩
  obtain ⟨ht, rfl⟩ := List.getElem?_eq_some_iff.1 hx
  have ht' : t < 3 := by simpa using ht
  rw [cell_at (heap_alloc_new w _)]
  rcases (by omega : t = 0 ∨ t = 1 ∨ t = 2) with rfl | rfl | rfl <;> rcases (by omega : j = 0 ∨ j = 1) with rfl | rfl <;> rfl
abbrev B12 : Array Value := #[.int .u8 128, .int .u8 0, .int .u8 0, .int .u8 0, .int .u8 128, .int .u8 0, .int .u8 0, .int .u8 0, .int .u8 0, .int .u8 0, .int .u8 0, .int .u8 0]
theorem srt_three : srt [(0, 2), (0, 1), (0, 2)] = [(0, 1), (0, 2)] := by decide
set_option maxHeartbeats 1600000 in
theorem live_any (w : World) : Calls Try.prog 7 #[] w fun e w' => e = .returned (.bool true) ∧ Below w.heap.size w w' := by
  have HB := hide (bytes_any 0 0 w)
  rw [turnT_num 0 (by omega), turnR_num 0 (by omega)] at HB
  have hb' : bytesV (0 + 2147483648) (0 + 9223372036854775808) = #[.int .u8 128, .int .u8 0, .int .u8 0, .int .u8 0, .int .u8 128, .int .u8 0, .int .u8 0, .int .u8 0, .int .u8 0, .int .u8 0, .int .u8 0, .int .u8 0] := by rfl
  rw [hb'] at HB
  have HK : Hid (∀ y : World, Calls Try.prog 4 #[.slice (some ⟨y.heap.size, 0, none⟩) 3 3] (y.alloc (.cells three 27)) fun e w' => ∃ r, e = .returned r ∧ w'.ownsRow (y.alloc (.cells three 27)).heap.size 27 2 r 2 [.int .i32 0, .int .i64 1, .int .i32 0, .int .i64 2] ∧ Below (y.alloc (.cells three 27)).heap.size (y.alloc (.cells three 27)) w') := fun y => by
    have := keys_any (sees_three y) (by intro k hk; simp only [List.mem_cons, List.not_mem_nil, or_false] at hk; rcases hk with rfl | rfl | rfl <;> exact ⟨by decide, by decide⟩) (by simp)
    rw [srt_three] at this
    exact this
  clear hb'
  go_enter Try.func7, Try.ntmps7
  go_wp2_with (first | (go_at_call 15; refine (unhide HB).mono ?_; rintro e w1 ⟨rfl, hg1⟩; have HG1 := hide hg1; clear hg1) | fail)
  have hz : (w1.alloc (.cells B12 44)).heap.size = w1.heap.size + 1 := by simp
  have h := unhide HK (w1.alloc (.cells B12 44))
  have hbb : Below (w1.heap.size + 1) (w1.alloc (.cells B12 44)) ((w1.alloc (.cells B12 44)).alloc (.cells three 27)) := (Below.refl _ _).alloc (by simp) _
  rw [hz] at h
  refine h.mono ?_
  rintro e w2 ⟨r, rfl, ho, hb⟩
  have hz2 : ((w1.alloc (.cells B12 44)).alloc (.cells three 27)).heap.size = w1.heap.size + 2 := by simp
  rw [hz2] at ho hb
  have hb2 : Below w.heap.size w w2 := (unhide HG1).below.trans (((((Below.refl _ _).alloc (Nat.le_refl _) _).alloc (by simp) _).trans (hb.mono (by omega))).mono (unhide HG1).below.size)
  have x0 : w2.heap[w1.heap.size]? = some (.cells B12 44) := (hb.block _ (by omega)).trans ((hbb.block _ (by omega)).trans (heap_alloc_new w1 _))
  have c0 : w2.cell? ⟨w1.heap.size, 0, none⟩ = some (.int .u8 128) := cell_at x0
  have c4 : w2.cell? ⟨w1.heap.size, 4, none⟩ = some (.int .u8 128) := cell_at x0
  have c11 : w2.cell? ⟨w1.heap.size, 11, none⟩ = some (.int .u8 0) := cell_at x0
  have HH := hide (has_any (l := [(0, 1), (0, 2)]) (own_sees kC_len (by decide) ho).2 0 2)
  rcases ho.2 with ⟨_, h0⟩ | ⟨g, cap, cur, hv, _, hg, hnc, _, hcs, ht⟩
  · cases h0
  have k0 : w2.cell? ⟨g, 1, none⟩ = some (.int .i64 1) := by
    rw [cell_at hg, ← Array.getElem?_toList, ← List.getElem?_take_of_lt (show 1 < 2 * 2 by decide), ht]
    rfl
  subst hv
  have HB2 := hide hb2
  clear h hbb hz hz2 hb hb2 x0 ho hg hcs ht
  have hd : decide (((0, 2) : Ky) ∈ ([(0, 1), (0, 2)] : List Ky)) = true := by decide
  rw [hd] at HH
  go_wp2_with (go_at_call 16; refine (unhide HH).mono ?_; rintro e w3 ⟨rfl, hg3⟩; have HG3 := hide hg3; clear hg3)
  go_ret
  exact ⟨rfl, (unhide HB2).trans ((unhide HG3).below.mono (unhide HB2).size)⟩
end Go.Proofs.Ytbajggmpklajnab
