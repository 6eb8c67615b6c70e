/- queue, may. -/
import Derived.Test.YteenbebpdibbcaaS4
namespace Go.Proofs.Yteenbebpdibbcaa
open Go.RowKit
set_option maxRecDepth 100000

section
variable {B : Nat → Prop} {lb mq mp : Nat} {w : World} {S : Sto}
set_option maxHeartbeats 1000000 in
theorem may_first (h : Mem B lb mq mp w S) {p a : Nat} {k : Ky} {ex hd : Bool} {be : Option Nat} (hp : S.cs p = some ⟨a, k, ex, hd, none, be⟩) :
    Calls Try.prog 67 #[PN p] w fun e w' => e = .returned (.bool true) ∧ Below w.heap.size w w' := by
  have a1 : w.cell? ⟨p, 5, none⟩ = some nilP := h.rd_cs hp 5
  go_enter Try.func67, Try.ntmps67
  go_wp2
  go_ret
  exact ⟨rfl, Below.refl _ _⟩
set_option maxHeartbeats 1000000 in
theorem may_next (h : Mem B lb mq mp w S) {p a x a2 : Nat} {k k2 : Ky} {ex hd ex2 hd2 : Bool} {be ah2 be2 : Option Nat} (hp : S.cs p = some ⟨a, k, ex, hd, some x, be⟩) (hx : S.cs x = some ⟨a2, k2, ex2, hd2, ah2, be2⟩) :
    Calls Try.prog 67 #[PN p] w fun e w' => e = .returned (.bool (!ex && !ex2 && hd2)) ∧ Below w.heap.size w w' := by
  obtain ⟨W1, hW1⟩ : ∃ z, w.alloc (.cells #[PN a2, .int .i32 k2.1, .int .i64 k2.2, .bool ex2, .bool hd2] 96) = z := ⟨_, rfl⟩
  have b1 : Below w.heap.size w W1 := hW1 ▸ below_box _
  have m1 := h.below b1
  have hc : W1.heap[w.heap.size]? = some (.cells #[PN a2, .int .i32 k2.1, .int .i64 k2.2, .bool ex2, .bool hd2] 96) := by rw [← hW1]; exact heap_alloc_new w _
  have a1 : w.cell? ⟨p, 5, none⟩ = some (PN x) := h.rd_cs hp 5
  have x0 : w.cell? ⟨x, 0, none⟩ = some (PN a2) := h.rd_cs hx 0
  have x1 : w.cell? ⟨x, 1, none⟩ = some (.int .i32 k2.1) := h.rd_cs hx 1
  have x2 : w.cell? ⟨x, 2, none⟩ = some (.int .i64 k2.2) := h.rd_cs hx 2
  have x3 : w.cell? ⟨x, 3, none⟩ = some (.bool ex2) := h.rd_cs hx 3
  have x4 : w.cell? ⟨x, 4, none⟩ = some (.bool hd2) := h.rd_cs hx 4
  have c3 : W1.cell? ⟨w.heap.size, 3, none⟩ = some (.bool ex2) := cell_at hc
  have c4 : W1.cell? ⟨w.heap.size, 4, none⟩ = some (.bool hd2) := cell_at hc
  have e3 : W1.cell? ⟨p, 3, none⟩ = some (.bool ex) := m1.rd_cs hp 3
  have HB := hide b1
  clear m1 h hp hx hc b1
  cases ex <;> cases ex2
  all_goals
    go_enter Try.func67, Try.ntmps67
    go_wp2
    try rw [hW1]
    go_wp2
    go_ret
    exact ⟨by rfl, unhide HB⟩
set_option maxHeartbeats 1000000 in
theorem queue_has (h : Mem B lb mq mp w S) (a b : Int) (hk : OkK (a, b)) {q : Nat} (hq : S.Q (a, b) = some q) :
    Calls Try.prog 44 #[PN lb, .agg #[.int .i32 a, .int .i64 b]] w fun e w' => e = .returned (PN q) ∧ Below w.heap.size w w' := by
  obtain ⟨W1, hW1⟩ : ∃ z, w.alloc (.cells #[.int .i32 a, .int .i64 b] 45) = z := ⟨_, rfl⟩
  have b1 : Below w.heap.size w W1 := hW1 ▸ below_box _
  have m1 := h.below b1
  have hc : W1.heap[w.heap.size]? = some (.cells #[.int .i32 a, .int .i64 b] 45) := by rw [← hW1]; exact heap_alloc_new w _
  have c0 : W1.cell? ⟨w.heap.size, 0, none⟩ = some (.int .i32 a) := cell_at hc
  have c1 : W1.cell? ⟨w.heap.size, 1, none⟩ = some (.int .i64 b) := cell_at hc
  have l0 : W1.cell? ⟨lb, 0, none⟩ = some (.map (some mq)) := m1.rd_top 0
  have hL := m1.drew.lookQ_has a b hk hq
  have hL1 := m1.lookQ_has a b hk hq
  have HB := hide b1.drew
  clear m1 h hc b1
  go_enter Try.func44, Try.ntmps44
  go_wp2
  try rw [hW1]
  go_region
  go_wp2
  go_ret
  exact ⟨rfl, unhide HB⟩
set_option maxHeartbeats 1000000 in
theorem queue_new (h : Mem B lb mq mp w S) (hB : ∀ j, w.heap.size ≤ j → B j) (a b : Int) (hk : OkK (a, b)) (hq : S.Q (a, b) = none) :
    Calls Try.prog 44 #[PN lb, .agg #[.int .i32 a, .int .i64 b]] w fun e w' => ∃ q, e = .returned (PN q) ∧ S.ln q = none ∧ Mem B lb mq mp w' { S with ln := up S.ln q ⟨none, none⟩, Q := fun x => if x = (a, b) then some q else S.Q x } ∧ Upd B w.heap.size w w' := by
  obtain ⟨W1, hW1⟩ : ∃ z, w.alloc (.cells #[.int .i32 a, .int .i64 b] 45) = z := ⟨_, rfl⟩
  have b1 : Below w.heap.size w W1 := hW1 ▸ below_box _
  have z1 : W1.heap.size = w.heap.size + 1 := by rw [← hW1]; simp
  have m1 := h.below b1
  have hc : W1.heap[w.heap.size]? = some (.cells #[.int .i32 a, .int .i64 b] 45) := by rw [← hW1]; exact heap_alloc_new w _
  obtain ⟨W2, hW2⟩ : ∃ z, W1.alloc (.cells #[nilP, nilP] 130) = z := ⟨_, rfl⟩
  obtain ⟨m2', hno⟩ := m1.new_ln (hB _ (by omega)) ⟨none, none⟩
  have m2 : Mem B lb mq mp W2 _ := hW2 ▸ m2'
  obtain ⟨q, hp⟩ : ∃ p, w.heap.size + 1 = p := ⟨_, rfl⟩
  rw [z1, hp] at hno m2
  have b2 : Below W1.heap.size W1 W2 := hW2 ▸ below_box _
  have c0 : W1.cell? ⟨w.heap.size, 0, none⟩ = some (.int .i32 a) := cell_at hc
  have c1 : W1.cell? ⟨w.heap.size, 1, none⟩ = some (.int .i64 b) := cell_at hc
  have d0 : W2.cell? ⟨w.heap.size, 0, none⟩ = some (.int .i32 a) := below_rd b2 c0
  have d1 : W2.cell? ⟨w.heap.size, 1, none⟩ = some (.int .i64 b) := below_rd b2 c1
  have l0 : W1.cell? ⟨lb, 0, none⟩ = some (.map (some mq)) := m1.rd_top 0
  have k0 : W2.cell? ⟨lb, 0, none⟩ = some (.map (some mq)) := m2.rd_top 0
  have hL := m1.drew.lookQ_no a b hk hq
  have hL1 := m1.lookQ_no a b hk hq
  obtain ⟨y, hr, hm, hfar, hsz, h1, h2, h3⟩ := m2.drew.drew.q.put Try.under68 a b hk (PN q)
  have hm' : MapS y mq (fun k => (((fun x => if x = (a, b) then some q else S.Q x) : Ky → Option Nat) k).map PN) := by
    have e : (fun k => (((fun x => if x = (a, b) then some q else S.Q x) : Ky → Option Nat) k).map PN) = putF (fun k => (S.Q k).map PN) (a, b) (PN q) := funext fun x => by
      unfold putF
      by_cases e : x = (a, b)
      · simp [e]
      · simp [e]
    rw [e]; exact hm
  have m3 := m2.drew.drew.map_q hfar hm'
  have u2 : Upd B w.heap.size w W2 := (Upd.of b1).trans (Upd.of (b2.mono (by omega)))
  have u3 : Upd B w.heap.size w y := u2.trans ⟨h1, h2, h3, by rw [hsz]; exact Nat.le_refl _, fun k hk hs => hfar k (fun e => hs (e ▸ h.bt.2.1))⟩
  have HM := hide (And.intro hno (And.intro m3 u3))
  clear m1 m2 m2' m3 hm hm' hfar hsz h1 h2 h3 h hc b1 b2 u2 u3 hno
  go_enter Try.func44, Try.ntmps44
  go_wp2
  try rw [hW1]
  go_region
  go_wp2
  try rw [z1]
  try rw [hp]
  try rw [hW2]
  go_region
  go_wp2
  go_ret
  exact ⟨q, rfl, (unhide HM).1, (unhide HM).2.1, (unhide HM).2.2⟩
end
end Go.Proofs.Yteenbebpdibbcaa
