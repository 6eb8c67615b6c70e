/- LocksNone: what locks that no call made answer. -/
import Derived.Test.YteenbebpdibbcaaE4
namespace Go.Proofs.Yteenbebpdibbcaa
open Go.RowKit
set_option maxRecDepth 100000

set_option maxHeartbeats 8000000 in
theorem none_walk (hbeg : ∀ w, Calls Try.prog 10 #[] w fun e w' => e = .returned (.bool true) ∧ Below w.heap.size w w') (o a b : Int) (u : Option Addr) (n c : Nat) (w : World) :
    Calls Try.prog 7 #[.agg #[.int .i64 o, .int .i64 a, .int .i64 b, .slice u n c]] w fun e w' => e = .returned (.bool true) ∧ Below w.heap.size w w' := by
  obtain ⟨N, hN⟩ : ∃ n, w.heap.size = n := ⟨_, rfl⟩
  obtain ⟨W0, hW0⟩ : ∃ z, w.alloc (.cells #[.int .i64 o, .int .i64 a, .int .i64 b, .slice u n c] 32) = z := ⟨_, rfl⟩
  have b0 : Below N w W0 := by rw [← hW0, ← hN]; exact below_box _
  have k0 : W0.heap[N]? = some (.cells #[.int .i64 o, .int .i64 a, .int .i64 b, .slice u n c] 32) := by rw [← hW0, ← hN]; exact heap_alloc_new w _
  have HBg := hide (hbeg W0)
  have HK := hide (And.intro b0 k0)
  rw [hN]
  clear hbeg b0 k0
  go_enter Try.func7, Try.ntmps7
  go_wp2_with (first | rw [hW0] | (go_at_call 10; refine (unhide HBg).mono ?_; rintro e w1 ⟨rfl, hb1⟩))
  try rw [hN]
  obtain ⟨b0, k0⟩ := unhide HK
  obtain ⟨zb, hzb⟩ : ∃ z, w1.heap.size = z := ⟨_, rfl⟩
  obtain ⟨sb, hsb⟩ : ∃ z, zb + 1 = z := ⟨_, rfl⟩
  obtain ⟨W2, hW2⟩ : ∃ z, w1.alloc (.cells zC 74) = z := ⟨_, rfl⟩
  obtain ⟨W3, hW3⟩ : ∃ z, W2.alloc (.cells #[nilP, PN zb] 23) = z := ⟨_, rfl⟩
  have z2 : W2.heap.size = sb := by rw [← hW2, ← hsb, ← hzb]; simp
  have b2 : Below w1.heap.size w1 W2 := hW2 ▸ below_box _
  have b3 : Below W2.heap.size W2 W3 := hW3 ▸ below_box _
  have hs0 : N < W0.heap.size := lt_of k0
  have hs1 := hb1.size
  have k1 : W2.heap[zb]? = some (.cells zC 74) := by rw [← hW2, ← hzb]; exact heap_alloc_new w1 _
  have k2 : W3.heap[sb]? = some (.cells #[nilP, PN zb] 23) := by rw [← hW3, ← z2]; exact heap_alloc_new W2 _
  have k0' : W3.heap[N]? = some (.cells #[.int .i64 o, .int .i64 a, .int .i64 b, .slice u n c] 32) := (b3.block N (by omega)).trans ((b2.block N (by omega)).trans ((hb1.block N hs0).trans k0))
  have k1' : W3.heap[zb]? = some (.cells zC 74) := (b3.block zb (by omega)).trans k1
  have hB3 : Below N w W3 := b0.trans ((hb1.mono (by omega)).trans ((b2.mono (by omega)).trans (b3.mono (by omega))))
  have HS := hide (And.intro k0' (And.intro k1' (And.intro k2 hB3)))
  have HW2 := hide hW2
  have HW3 := hide hW3
  clear b0 k0 b2 b3 hs0 hs1 k1 k2 k0' k1' hB3 hb1 hW2 hW3
  go_wp2_with (first | rw [hzb] | rw [show w1.alloc (.cells #[.map none, .pointer none, .pointer none, .map none, .int .i64 0] 74) = W2 from unhide HW2] | rw [z2] | rw [unhide HW3])
  try rw [hzb]
  try rw [show w1.alloc (.cells #[.map none, .pointer none, .pointer none, .map none, .int .i64 0] 74) = W2 from unhide HW2]
  try rw [z2]
  try rw [hsb]
  try rw [show W2.alloc (.cells #[.pointer none, .pointer (some ⟨zb, 0, none⟩)] 23) = W3 from unhide HW3]
  go_loopw [13] (fun cv wr => ∃ t : Nat, t ≤ 2 ∧ cv = .int .i64 t ∧ wr.heap[N]? = some (.cells #[.int .i64 o, .int .i64 a, .int .i64 b, .slice u n c] 32) ∧ wr.heap[zb]? = some (.cells zC 74) ∧ wr.heap[sb]? = some (.cells #[nilP, PN zb] 23) ∧ Below N w wr) (fun cv _ => 2 - (intOf cv).toNat)
  case atStart =>
    obtain ⟨q0, q1, q2, q3⟩ := unhide HS
    exact ⟨0, by omega, rfl, q0, q1, q2, q3⟩
  case round =>
    obtain ⟨t, ht, rfl, k0, k1, k2, hBw⟩ := hrel
    have HC : Hid (∀ x, Below wr.heap.size wr x → x.cell? ⟨N, 0, none⟩ = some (.int .i64 o) ∧ x.cell? ⟨N, 1, none⟩ = some (.int .i64 a) ∧ x.cell? ⟨N, 2, none⟩ = some (.int .i64 b) ∧ x.cell? ⟨N, 3, none⟩ = some (.slice u n c) ∧ True) := fun x hx => by
      have hk := (hx.block N (lt_of k0)).trans k0
      exact ⟨cell_at hk, cell_at hk, cell_at hk, cell_at hk, trivial⟩
    have HW : Hid (∀ x, Below wr.heap.size wr x → x.heap[N]? = some (.cells #[.int .i64 o, .int .i64 a, .int .i64 b, .slice u n c] 32) ∧ x.heap[zb]? = some (.cells zC 74) ∧ x.heap[sb]? = some (.cells #[nilP, PN zb] 23) ∧ Below N w x) := fun x hx =>
      ⟨(hx.block N (lt_of k0)).trans k0, (hx.block zb (lt_of k1)).trans k1, (hx.block sb (lt_of k2)).trans k2, hBw.trans (hx.mono (by have := lt_of k0; omega))⟩
    have p1 : wr.cell? ⟨N, 1, none⟩ = some (.int .i64 a) := cell_at k0
    have p2 : wr.cell? ⟨N, 2, none⟩ = some (.int .i64 b) := cell_at k0
    rcases (by omega : t = 0 ∨ t = 1 ∨ t = 2) with rfl | rfl | rfl
    · skip
      have HNo : Hid (∀ x, Below wr.heap.size wr x → IsNo x nilP) := fun x hx => ⟨none, rfl, fun g hg => by cases hg⟩
      have hb : Below wr.heap.size wr wr := Below.refl _ _
      have f0 : wr.cell? ⟨sb, 0, none⟩ = some nilP := cell_at k2
      clear k0 k1 k2
      go_wp2_with (first | (go_at_call 14; refine (release_no (unhide HNo _ hb) a b).mono ?_; rintro e x ⟨rfl, hx⟩; replace hb := hb.trans (hx.mono hb.size); obtain ⟨f1, f2, f3, f4, f5⟩ := unhide HC _ hb) | (go_at_call 13; refine (request_no (unhide HNo _ hb) a b).mono ?_; rintro e x ⟨rfl, hx⟩; replace hb := hb.trans (hx.mono hb.size); obtain ⟨f1, f2, f3, f4, f5⟩ := unhide HC _ hb) | (go_at_call 21; refine (ready_no (unhide HNo _ hb) a b).mono ?_; rintro e x ⟨rfl, hx⟩; replace hb := hb.trans (hx.mono hb.size); obtain ⟨f1, f2, f3, f4, f5⟩ := unhide HC _ hb) | (go_at_call 20; refine (all_no (unhide HNo _ hb)).mono ?_; rintro e x ⟨bx, rfl, hcx, hx⟩; replace hb := hb.trans (hx.mono hb.size); obtain ⟨f1, f2, f3, f4, f5⟩ := unhide HC _ hb) | (go_at_call 29; refine (told_no bx hcx).mono ?_; rintro e x ⟨rfl, hx⟩; replace hb := hb.trans (hx.mono hb.size); obtain ⟨f1, f2, f3, f4, f5⟩ := unhide HC _ hb) | (go_at_call 30; refine (waits_no (unhide HNo _ hb) a b).mono ?_; rintro e x ⟨rfl, hx⟩; replace hb := hb.trans (hx.mono hb.size); obtain ⟨f1, f2, f3, f4, f5⟩ := unhide HC _ hb) | (go_at_call 16; refine (queue_no (unhide HNo _ hb) 0 0).mono ?_; rintro e x ⟨rfl, hx⟩; replace hb := hb.trans (hx.mono hb.size); obtain ⟨f1, f2, f3, f4, f5⟩ := unhide HC _ hb) | (go_at_call 15; refine (keys_no (unhide HNo _ hb)).mono ?_; rintro e x ⟨rfl, hx⟩; replace hb := hb.trans (hx.mono hb.size); obtain ⟨f1, f2, f3, f4, f5⟩ := unhide HC _ hb) | (go_at_call 26; refine (len_no (unhide HNo _ hb)).mono ?_; rintro e x ⟨rfl, hx⟩; replace hb := hb.trans (hx.mono hb.size); obtain ⟨f1, f2, f3, f4, f5⟩ := unhide HC _ hb) | (go_at_call 31; refine (clone_no (unhide HNo _ hb)).mono ?_; rintro e x ⟨rfl, hx⟩; replace hb := hb.trans (hx.mono hb.size); obtain ⟨f1, f2, f3, f4, f5⟩ := unhide HC _ hb))
      go_roundw
      case rel =>
        obtain ⟨q0, q1, q2, q3⟩ := unhide HW _ hb
        exact ⟨1, by omega, rfl, q0, q1, q2, q3⟩
      case measure => simp [intOf]
    · skip
      have HNo : Hid (∀ x, Below wr.heap.size wr x → IsNo x (PN zb)) := fun x hx => ⟨some ⟨zb, 0, none⟩, rfl, fun g hg => ⟨zb, (Option.some.inj hg).symm, (hx.block zb (lt_of k1)).trans k1⟩⟩
      have hb : Below wr.heap.size wr wr := Below.refl _ _
      have f0 : wr.cell? ⟨sb, 1, none⟩ = some (PN zb) := cell_at k2
      clear k0 k1 k2
      go_wp2_with (first | (go_at_call 14; refine (release_no (unhide HNo _ hb) a b).mono ?_; rintro e x ⟨rfl, hx⟩; replace hb := hb.trans (hx.mono hb.size); obtain ⟨f1, f2, f3, f4, f5⟩ := unhide HC _ hb) | (go_at_call 13; refine (request_no (unhide HNo _ hb) a b).mono ?_; rintro e x ⟨rfl, hx⟩; replace hb := hb.trans (hx.mono hb.size); obtain ⟨f1, f2, f3, f4, f5⟩ := unhide HC _ hb) | (go_at_call 21; refine (ready_no (unhide HNo _ hb) a b).mono ?_; rintro e x ⟨rfl, hx⟩; replace hb := hb.trans (hx.mono hb.size); obtain ⟨f1, f2, f3, f4, f5⟩ := unhide HC _ hb) | (go_at_call 20; refine (all_no (unhide HNo _ hb)).mono ?_; rintro e x ⟨bx, rfl, hcx, hx⟩; replace hb := hb.trans (hx.mono hb.size); obtain ⟨f1, f2, f3, f4, f5⟩ := unhide HC _ hb) | (go_at_call 29; refine (told_no bx hcx).mono ?_; rintro e x ⟨rfl, hx⟩; replace hb := hb.trans (hx.mono hb.size); obtain ⟨f1, f2, f3, f4, f5⟩ := unhide HC _ hb) | (go_at_call 30; refine (waits_no (unhide HNo _ hb) a b).mono ?_; rintro e x ⟨rfl, hx⟩; replace hb := hb.trans (hx.mono hb.size); obtain ⟨f1, f2, f3, f4, f5⟩ := unhide HC _ hb) | (go_at_call 16; refine (queue_no (unhide HNo _ hb) 0 0).mono ?_; rintro e x ⟨rfl, hx⟩; replace hb := hb.trans (hx.mono hb.size); obtain ⟨f1, f2, f3, f4, f5⟩ := unhide HC _ hb) | (go_at_call 15; refine (keys_no (unhide HNo _ hb)).mono ?_; rintro e x ⟨rfl, hx⟩; replace hb := hb.trans (hx.mono hb.size); obtain ⟨f1, f2, f3, f4, f5⟩ := unhide HC _ hb) | (go_at_call 26; refine (len_no (unhide HNo _ hb)).mono ?_; rintro e x ⟨rfl, hx⟩; replace hb := hb.trans (hx.mono hb.size); obtain ⟨f1, f2, f3, f4, f5⟩ := unhide HC _ hb) | (go_at_call 31; refine (clone_no (unhide HNo _ hb)).mono ?_; rintro e x ⟨rfl, hx⟩; replace hb := hb.trans (hx.mono hb.size); obtain ⟨f1, f2, f3, f4, f5⟩ := unhide HC _ hb))
      go_roundw
      case rel =>
        obtain ⟨q0, q1, q2, q3⟩ := unhide HW _ hb
        exact ⟨2, by omega, rfl, q0, q1, q2, q3⟩
      case measure => simp [intOf]
    · have HE := hide hBw
      clear k0 k1 k2 hBw p1 p2 HC HW
      go_wp2
      go_ret
      exact ⟨rfl, unhide HE⟩
end Go.Proofs.Yteenbebpdibbcaa
