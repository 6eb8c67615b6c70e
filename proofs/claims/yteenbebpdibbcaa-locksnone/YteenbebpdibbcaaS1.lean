/- join, of claims and of askers. -/
import Derived.Test.YteenbebpdibbcaaS0
import Derived.BigQuiet
import Derived.Deep.QuietTactic
import Derived.LaidEqlPtr
namespace Go.Proofs.Yteenbebpdibbcaa
open Go.RowKit
set_option maxRecDepth 100000

theorem up_up {α : Type} (f : Nat → Option α) (b : Nat) (c d : α) : up (up f b c) b d = up f b d := funext fun x => by unfold up; split <;> rfl
section
variable {B : Nat → Prop} {lb mq mp : Nat} {w : World} {S : Sto}
set_option maxHeartbeats 1000000 in
theorem joinC_new (h : Mem B lb mq mp w S) (hB : ∀ j, w.heap.size ≤ j → B j) {q : Nat} (hq : S.ln q = some ⟨none, none⟩) (a : Nat) (k1 k2 : Int) (ex hd : Bool) :
    Calls Try.prog 45 #[PN q, .agg #[PN a, .int .i32 k1, .int .i64 k2, .bool ex, .bool hd]] w fun e w' => ∃ p, e = .returned (PN p) ∧ S.cs p = none ∧ w.heap.size ≤ p ∧ Mem B lb mq mp w' { S with cs := up S.cs p ⟨a, (k1, k2), ex, hd, none, none⟩, ln := up S.ln q ⟨some p, some p⟩ } ∧ Upd B w.heap.size w w' := by
  obtain ⟨W1, hW1⟩ : ∃ z, w.alloc (.cells #[PN a, .int .i32 k1, .int .i64 k2, .bool ex, .bool hd] 96) = z := ⟨_, rfl⟩
  have b1 : Below w.heap.size w W1 := hW1 ▸ below_box _
  have z1 : W1.heap.size = w.heap.size + 1 := by rw [← hW1]; simp
  have m1 := h.below b1
  have hc : W1.heap[w.heap.size]? = some (.cells #[PN a, .int .i32 k1, .int .i64 k2, .bool ex, .bool hd] 96) := by rw [← hW1]; exact heap_alloc_new w _
  obtain ⟨W2, hW2⟩ : ∃ z, W1.alloc (.cells #[PN a, .int .i32 k1, .int .i64 k2, .bool ex, .bool hd, nilP, nilP] 109) = z := ⟨_, rfl⟩
  obtain ⟨m2', hno⟩ := m1.new_cs (hB _ (by omega)) ⟨a, (k1, k2), ex, hd, none, none⟩
  have m2 : Mem B lb mq mp W2 _ := hW2 ▸ m2'
  have u2 : Upd B w.heap.size w W2 := (Upd.of b1).trans (hW2 ▸ (Upd.refl _ _ _).alloc (by omega) _)
  obtain ⟨p, hp⟩ : ∃ p, w.heap.size + 1 = p := ⟨_, rfl⟩
  rw [z1, hp] at hno m2
  have hq2 : ({ S with cs := up S.cs p ⟨a, (k1, k2), ex, hd, none, none⟩ } : Sto).ln q = some ⟨none, none⟩ := hq
  have m3 := m2.set_ln (i := 0) (v := PN p) (c' := ⟨some p, none⟩) hq2 rfl
  have hq3 := up_same S.ln q ⟨some p, none⟩
  have m4 := (m3.set_ln (i := 1) (v := PN p) (c' := ⟨some p, some p⟩) hq3 rfl).drew
  simp only [up_up] at m4
  have u4 : Upd B w.heap.size w ((W2.setCell ⟨q, 0, none⟩ (PN p)).setCell ⟨q, 1, none⟩ (PN p)).drew := ((u2.setCell (.inl (h.ln q _ hq).2) _).setCell (.inl (h.ln q _ hq).2) _).drew
  have l3 : W2.cell? ⟨q, 0, none⟩ = some nilP := m2.rd_ln hq2 0
  have l3f : W2.frozen? ⟨q, 0, none⟩ = false := m2.fr_ln hq2 0
  have l4 : (W2.setCell ⟨q, 0, none⟩ (PN p)).cell? ⟨q, 1, none⟩ = some nilP := m3.rd_ln hq3 1
  have l4f : (W2.setCell ⟨q, 0, none⟩ (PN p)).frozen? ⟨q, 1, none⟩ = false := m3.fr_ln hq3 1
  have l1 : W1.cell? ⟨q, 1, none⟩ = some nilP := m1.rd_ln hq 1
  have c0 : W1.cell? ⟨w.heap.size, 0, none⟩ = some (PN a) := cell_at hc
  have c1 : W1.cell? ⟨w.heap.size, 1, none⟩ = some (.int .i32 k1) := cell_at hc
  have c2 : W1.cell? ⟨w.heap.size, 2, none⟩ = some (.int .i64 k2) := cell_at hc
  have c3 : W1.cell? ⟨w.heap.size, 3, none⟩ = some (.bool ex) := cell_at hc
  have c4 : W1.cell? ⟨w.heap.size, 4, none⟩ = some (.bool hd) := cell_at hc
  have l2 : W2.cell? ⟨p, 5, none⟩ = some nilP := m2.rd_cs (up_same _ _ _) 5
  have HM := hide (And.intro hno (And.intro m4 u4))
  have hps : w.heap.size ≤ p := by omega
  clear m1 m2 m2' m3 m4 u2 u4 hc b1 hq2 hq3 h hno
  go_enter Try.func45, Try.ntmps45
  go_wp2
  try rw [hW1]
  go_region
  try rw [z1]
  try rw [hp]
  try rw [hW2]
  go_wp2
  go_ret
  exact ⟨p, rfl, (unhide HM).1, hps, (unhide HM).2.1, (unhide HM).2.2⟩
set_option maxHeartbeats 1000000 in
theorem joinC_app (h : Mem B lb mq mp w S) (hB : ∀ j, w.heap.size ≤ j → B j) {q : Nat} {f : Option Nat} {l : Nat} {cl : Cl} (hl : S.cs l = some cl) (hq : S.ln q = some ⟨f, some l⟩) (a : Nat) (k1 k2 : Int) (ex hd : Bool) :
    Calls Try.prog 45 #[PN q, .agg #[PN a, .int .i32 k1, .int .i64 k2, .bool ex, .bool hd]] w fun e w' => ∃ p, e = .returned (PN p) ∧ S.cs p = none ∧ w.heap.size ≤ p ∧ Mem B lb mq mp w' { S with cs := up (up S.cs p ⟨a, (k1, k2), ex, hd, some l, none⟩) l { cl with be := some p }, ln := up S.ln q ⟨f, some p⟩ } ∧ Upd B w.heap.size w w' := by
  obtain ⟨W1, hW1⟩ : ∃ z, w.alloc (.cells #[PN a, .int .i32 k1, .int .i64 k2, .bool ex, .bool hd] 96) = z := ⟨_, rfl⟩
  have b1 : Below w.heap.size w W1 := hW1 ▸ below_box _
  have z1 : W1.heap.size = w.heap.size + 1 := by rw [← hW1]; simp
  have m1 := h.below b1
  have hc : W1.heap[w.heap.size]? = some (.cells #[PN a, .int .i32 k1, .int .i64 k2, .bool ex, .bool hd] 96) := by rw [← hW1]; exact heap_alloc_new w _
  obtain ⟨W2, hW2⟩ : ∃ z, W1.alloc (.cells #[PN a, .int .i32 k1, .int .i64 k2, .bool ex, .bool hd, PN l, nilP] 109) = z := ⟨_, rfl⟩
  obtain ⟨m2', hno⟩ := m1.new_cs (hB _ (by omega)) ⟨a, (k1, k2), ex, hd, some l, none⟩
  have m2 : Mem B lb mq mp W2 _ := hW2 ▸ m2'
  have u2 : Upd B w.heap.size w W2 := (Upd.of b1).trans (hW2 ▸ (Upd.refl _ _ _).alloc (by omega) _)
  obtain ⟨p, hp⟩ : ∃ p, w.heap.size + 1 = p := ⟨_, rfl⟩
  rw [z1, hp] at hno m2
  have hq2 : ({ S with cs := up S.cs p ⟨a, (k1, k2), ex, hd, some l, none⟩ } : Sto).ln q = some ⟨f, some l⟩ := hq
  have hne : l ≠ p := fun e => by rw [e, hno] at hl; cases hl
  have hl2 : ({ S with cs := up S.cs p ⟨a, (k1, k2), ex, hd, some l, none⟩ } : Sto).cs l = some cl := (up_other _ _ hne).trans hl
  have m3 := m2.set_cs (i := 6) (v := PN p) (c' := { cl with be := some p }) hl2 rfl
  have m4 := (m3.set_ln (i := 1) (v := PN p) (c' := ⟨f, some p⟩) hq2 rfl).drew
  have u4 : Upd B w.heap.size w ((W2.setCell ⟨l, 6, none⟩ (PN p)).setCell ⟨q, 1, none⟩ (PN p)).drew := ((u2.setCell (.inl (h.cs l _ hl).2) _).setCell (.inl (h.ln q _ hq).2) _).drew
  have l3 : W2.cell? ⟨l, 6, none⟩ = some (PO cl.be) := m2.rd_cs hl2 6
  have l3f : W2.frozen? ⟨l, 6, none⟩ = false := m2.fr_cs hl2 6
  have l4 : (W2.setCell ⟨l, 6, none⟩ (PN p)).cell? ⟨q, 1, none⟩ = some (PN l) := m3.rd_ln hq2 1
  have l4f : (W2.setCell ⟨l, 6, none⟩ (PN p)).frozen? ⟨q, 1, none⟩ = false := m3.fr_ln hq2 1
  have l1 : W1.cell? ⟨q, 1, none⟩ = some (PN l) := m1.rd_ln hq 1
  have c0 : W1.cell? ⟨w.heap.size, 0, none⟩ = some (PN a) := cell_at hc
  have c1 : W1.cell? ⟨w.heap.size, 1, none⟩ = some (.int .i32 k1) := cell_at hc
  have c2 : W1.cell? ⟨w.heap.size, 2, none⟩ = some (.int .i64 k2) := cell_at hc
  have c3 : W1.cell? ⟨w.heap.size, 3, none⟩ = some (.bool ex) := cell_at hc
  have c4 : W1.cell? ⟨w.heap.size, 4, none⟩ = some (.bool hd) := cell_at hc
  have l2 : W2.cell? ⟨p, 5, none⟩ = some (PN l) := m2.rd_cs (up_same _ _ _) 5
  have HM := hide (And.intro hno (And.intro m4 u4))
  have hps : w.heap.size ≤ p := by omega
  clear m1 m2 m2' m3 m4 u2 u4 hc b1 hq2 hl2 hne h hno
  go_enter Try.func45, Try.ntmps45
  go_wp2
  try rw [hW1]
  go_region
  try rw [z1]
  try rw [hp]
  try rw [hW2]
  go_wp2
  go_ret
  exact ⟨p, rfl, (unhide HM).1, hps, (unhide HM).2.1, (unhide HM).2.2⟩
set_option maxHeartbeats 1000000 in
theorem joinA_new (h : Mem B lb mq mp w S) (hB : ∀ j, w.heap.size ≤ j → B j) (_hf : S.fi = none) (hl : S.la = none) (a : Nat) :
    Calls Try.prog 43 #[.pointer (some ⟨lb, 1, none⟩), PN a] w fun e w' => ∃ p, e = .returned (PN p) ∧ S.sp p = none ∧ w.heap.size ≤ p ∧ Mem B lb mq mp w' { S with sp := up S.sp p ⟨a, none, none⟩, fi := some p, la := some p } ∧ Upd B w.heap.size w w' := by
  obtain ⟨W2, hW2⟩ : ∃ z, w.alloc (.cells #[PN a, nilP, nilP] 101) = z := ⟨_, rfl⟩
  obtain ⟨m2', hno⟩ := h.new_sp (hB _ (by omega)) ⟨a, none, none⟩
  have m2 : Mem B lb mq mp W2 _ := hW2 ▸ m2'
  have u2 : Upd B w.heap.size w W2 := hW2 ▸ (Upd.refl _ _ _).alloc (by omega) _
  obtain ⟨p, hp⟩ : ∃ p, w.heap.size = p := ⟨_, rfl⟩
  rw [hp] at hno m2
  have m3 := m2.set_top (i := 1) (v := PN p) (fi := some p) (la := S.la) (asked := S.asked) rfl
  have m4 := m3.set_top (i := 2) (v := PN p) (fi := some p) (la := some p) (asked := S.asked) rfl
  have u4 : Upd B w.heap.size w ((W2.setCell ⟨lb, 1, none⟩ (PN p)).setCell ⟨lb, 2, none⟩ (PN p)) := (u2.setCell (.inl h.bt.1) _).setCell (.inl h.bt.1) _
  have l3 : W2.cell? ⟨lb, 1, none⟩ = some (PO S.fi) := m2.rd_top 1
  have l3f : W2.frozen? ⟨lb, 1, none⟩ = false := m2.fr_top 1
  have l4 : (W2.setCell ⟨lb, 1, none⟩ (PN p)).cell? ⟨lb, 2, none⟩ = some (PO S.la) := m3.rd_top 2
  have l4f : (W2.setCell ⟨lb, 1, none⟩ (PN p)).frozen? ⟨lb, 2, none⟩ = false := m3.fr_top 2
  have l1 : w.cell? ⟨lb, 2, none⟩ = some nilP := (h.rd_top 2).trans (by rw [show (topC mq mp S)[2]? = some (PO S.la) from rfl, hl]; rfl)
  have l2 : W2.cell? ⟨p, 1, none⟩ = some nilP := m2.rd_sp (up_same _ _ _) 1
  have HM := hide (And.intro hno (And.intro m4 u4))
  have hps : w.heap.size ≤ p := by omega
  clear m2 m2' m3 m4 u2 u4 _hf h hno
  go_enter Try.func43, Try.ntmps43
  go_wp2_with (rw [hW2])
  try rw [hp]
  try rw [hW2]
  go_wp2
  go_ret
  subst hp
  exact ⟨_, rfl, (unhide HM).1, hps, (unhide HM).2.1, (unhide HM).2.2⟩
set_option maxHeartbeats 1000000 in
theorem joinA_app (h : Mem B lb mq mp w S) (hB : ∀ j, w.heap.size ≤ j → B j) {l : Nat} {sl : Sp} (hl : S.la = some l) (hs : S.sp l = some sl) (a : Nat) :
    Calls Try.prog 43 #[.pointer (some ⟨lb, 1, none⟩), PN a] w fun e w' => ∃ p, e = .returned (PN p) ∧ S.sp p = none ∧ w.heap.size ≤ p ∧ Mem B lb mq mp w' { S with sp := up (up S.sp p ⟨a, some l, none⟩) l { sl with be := some p }, fi := S.fi, la := some p } ∧ Upd B w.heap.size w w' := by
  obtain ⟨W2, hW2⟩ : ∃ z, w.alloc (.cells #[PN a, PN l, nilP] 101) = z := ⟨_, rfl⟩
  obtain ⟨m2', hno⟩ := h.new_sp (hB _ (by omega)) ⟨a, some l, none⟩
  have m2 : Mem B lb mq mp W2 _ := hW2 ▸ m2'
  have u2 : Upd B w.heap.size w W2 := hW2 ▸ (Upd.refl _ _ _).alloc (by omega) _
  obtain ⟨p, hp⟩ : ∃ p, w.heap.size = p := ⟨_, rfl⟩
  rw [hp] at hno m2
  have hne : l ≠ p := fun e => by rw [e, hno] at hs; cases hs
  have hl2 : ({ S with sp := up S.sp p ⟨a, some l, none⟩ } : Sto).sp l = some sl := (up_other _ _ hne).trans hs
  have m3 := m2.set_sp (i := 2) (v := PN p) (c' := { sl with be := some p }) hl2 rfl
  have m4 := m3.set_top (i := 2) (v := PN p) (fi := S.fi) (la := some p) (asked := S.asked) rfl
  have u4 : Upd B w.heap.size w ((W2.setCell ⟨l, 2, none⟩ (PN p)).setCell ⟨lb, 2, none⟩ (PN p)) := (u2.setCell (.inl (h.sp l _ hs).2) _).setCell (.inl h.bt.1) _
  have l3 : W2.cell? ⟨l, 2, none⟩ = some (PO sl.be) := m2.rd_sp hl2 2
  have l3f : W2.frozen? ⟨l, 2, none⟩ = false := m2.fr_sp hl2 2
  have l4 : (W2.setCell ⟨l, 2, none⟩ (PN p)).cell? ⟨lb, 2, none⟩ = some (PO S.la) := m3.rd_top 2
  have l4f : (W2.setCell ⟨l, 2, none⟩ (PN p)).frozen? ⟨lb, 2, none⟩ = false := m3.fr_top 2
  have l1 : w.cell? ⟨lb, 2, none⟩ = some (PN l) := (h.rd_top 2).trans (by rw [show (topC mq mp S)[2]? = some (PO S.la) from rfl, hl]; rfl)
  have l2 : W2.cell? ⟨p, 1, none⟩ = some (PN l) := m2.rd_sp (up_same _ _ _) 1
  have HM := hide (And.intro hno (And.intro m4 u4))
  have hps : w.heap.size ≤ p := by omega
  clear m2 m2' m3 m4 u2 u4 hl2 hne h hno
  go_enter Try.func43, Try.ntmps43
  go_wp2_with (rw [hW2])
  try rw [hp]
  try rw [hW2]
  go_wp2
  go_ret
  subst hp
  exact ⟨_, rfl, (unhide HM).1, hps, (unhide HM).2.1, (unhide HM).2.2⟩
end
end Go.Proofs.Yteenbebpdibbcaa
