/- leave, of claims and of askers. -/
import Derived.Test.YteenbebpdibbcaaS1
namespace Go.Proofs.Yteenbebpdibbcaa
open Go.RowKit
set_option maxRecDepth 100000

def md {α : Type} (f : Nat → Option α) (b : Nat) (g : α → α) : Nat → Option α := fun x => if x = b then (f b).map g else f x
theorem md_up {α : Type} {f : Nat → Option α} {b : Nat} {c : α} (h : f b = some c) (g : α → α) : up f b (g c) = md f b g := funext fun x => by
  unfold up md
  rw [h]
  rfl
/-- The way onward of the one ahead (or the line's first one) is what was behind. -/
def unlC1 (S : Sto) (q : Nat) (ah be : Option Nat) : Sto := match ah with
  | none => { S with ln := md S.ln q fun n => { n with f := be } }
  | some a => { S with cs := md S.cs a fun c => { c with be := be } }
def unlC2 (S : Sto) (q : Nat) (ah be : Option Nat) : Sto := match be with
  | none => { S with ln := md S.ln q fun n => { n with l := ah } }
  | some b => { S with cs := md S.cs b fun c => { c with ah := ah } }
def unlA1 (S : Sto) (ah be : Option Nat) : Sto := match ah with
  | none => { S with fi := be }
  | some a => { S with sp := md S.sp a fun c => { c with be := be } }
def unlA2 (S : Sto) (ah be : Option Nat) : Sto := match be with
  | none => { S with la := ah }
  | some b => { S with sp := md S.sp b fun c => { c with ah := ah } }
section
variable {B : Nat → Prop} {lb mq mp : Nat} {w : World} {S : Sto}
set_option maxHeartbeats 1000000 in
theorem leaveC_nn (h : Mem B lb mq mp w S) {q p a : Nat} {k : Ky} {ex hd : Bool} {n : Ln} (hp : S.cs p = some ⟨a, k, ex, hd, none, none⟩) (hq : S.ln q = some n) :
    Calls Try.prog 68 #[PN q, PN p] w fun e w' => e = .returned (.tuple #[]) ∧ Mem B lb mq mp w' (unlC2 (unlC1 S q none none) q none none) ∧ Upd B w.heap.size w w' := by
  have m3 := h.set_ln (i := 0) (v := nilP) (c' := { n with f := none }) hq rfl
  rw [md_up (g := fun n : Ln => { n with f := none }) hq] at m3
  have l3 : w.cell? ⟨q, 0, none⟩ = some (PO n.f) := h.rd_ln hq 0
  have l3f : w.frozen? ⟨q, 0, none⟩ = false := h.fr_ln hq 0
  have p3 : ({ S with ln := md S.ln q fun n => { n with f := none } } : Sto).cs p = some ⟨a, k, ex, hd, none, none⟩ := hp
  have q3 : ({ S with ln := md S.ln q fun n => { n with f := none } } : Sto).ln q = some { n with f := none } := by show md S.ln q _ q = _; simp [md, hq]
  have m4 := m3.set_ln (i := 1) (v := nilP) (c' := { ({ n with f := none } : Ln) with l := none }) q3 rfl
  rw [md_up (g := fun n : Ln => { n with l := none }) q3] at m4
  have l4 : (w.setCell ⟨q, 0, none⟩ nilP).cell? ⟨q, 1, none⟩ = some (PO n.l) := m3.rd_ln q3 1
  have l4f : (w.setCell ⟨q, 0, none⟩ nilP).frozen? ⟨q, 1, none⟩ = false := m3.fr_ln q3 1
  have u4 : Upd B w.heap.size w ((w.setCell ⟨q, 0, none⟩ nilP).setCell ⟨q, 1, none⟩ nilP) := ((Upd.refl _ _ _).setCell (.inl (h.ln q _ hq).2) _).setCell (.inl (h.ln q _ hq).2) _
  have a1 : w.cell? ⟨p, 5, none⟩ = some nilP := h.rd_cs hp 5
  have a2 : w.cell? ⟨p, 6, none⟩ = some nilP := h.rd_cs hp 6
  have a3 : (w.setCell ⟨q, 0, none⟩ nilP).cell? ⟨p, 5, none⟩ = some nilP := m3.rd_cs p3 5
  have a4 : (w.setCell ⟨q, 0, none⟩ nilP).cell? ⟨p, 6, none⟩ = some nilP := m3.rd_cs p3 6
  have HM := hide (And.intro m4 u4)
  clear m3 m4 u4 h p3 hp hq q3
  go_enter Try.func68, Try.ntmps68
  go_wp2
  skip
  go_wp2
  skip
  go_wp2

  go_end0
  first | exact ⟨rfl, (unhide HM).1, (unhide HM).2⟩ | exact ⟨rfl, (unhide HM).1.drew, (unhide HM).2.drew⟩ | exact ⟨rfl, (unhide HM).1.drew.drew, (unhide HM).2.drew.drew⟩
set_option maxHeartbeats 1000000 in
theorem leaveC_ns (h : Mem B lb mq mp w S) {q p a : Nat} {k : Ky} {ex hd : Bool} {n : Ln} {y : Nat} {cy : Cl} (hy : S.cs y = some cy) (_hyp : y ≠ p) (hp : S.cs p = some ⟨a, k, ex, hd, none, (some y)⟩) (hq : S.ln q = some n) :
    Calls Try.prog 68 #[PN q, PN p] w fun e w' => e = .returned (.tuple #[]) ∧ Mem B lb mq mp w' (unlC2 (unlC1 S q none (some y)) q none (some y)) ∧ Upd B w.heap.size w w' := by
  have m3 := h.set_ln (i := 0) (v := (PN y)) (c' := { n with f := (some y) }) hq rfl
  rw [md_up (g := fun n : Ln => { n with f := (some y) }) hq] at m3
  have l3 : w.cell? ⟨q, 0, none⟩ = some (PO n.f) := h.rd_ln hq 0
  have l3f : w.frozen? ⟨q, 0, none⟩ = false := h.fr_ln hq 0
  have p3 : ({ S with ln := md S.ln q fun n => { n with f := (some y) } } : Sto).cs p = some ⟨a, k, ex, hd, none, (some y)⟩ := hp
  have y3 : ({ S with ln := md S.ln q fun n => { n with f := (some y) } } : Sto).cs y = some cy := hy
  have m4 := m3.set_cs (i := 5) (v := nilP) (c' := { cy with ah := none }) y3 rfl
  rw [md_up (g := fun n : Cl => { n with ah := none }) y3] at m4
  have l4 : (w.setCell ⟨q, 0, none⟩ (PN y)).cell? ⟨y, 5, none⟩ = some (PO cy.ah) := m3.rd_cs y3 5
  have l4f : (w.setCell ⟨q, 0, none⟩ (PN y)).frozen? ⟨y, 5, none⟩ = false := m3.fr_cs y3 5
  have u4 : Upd B w.heap.size w ((w.setCell ⟨q, 0, none⟩ (PN y)).setCell ⟨y, 5, none⟩ nilP) := ((Upd.refl _ _ _).setCell (.inl (h.ln q _ hq).2) _).setCell (.inl (h.cs y _ hy).2) _
  have a1 : w.cell? ⟨p, 5, none⟩ = some nilP := h.rd_cs hp 5
  have a2 : w.cell? ⟨p, 6, none⟩ = some (PN y) := h.rd_cs hp 6
  have a3 : (w.setCell ⟨q, 0, none⟩ (PN y)).cell? ⟨p, 5, none⟩ = some nilP := m3.rd_cs p3 5
  have a4 : (w.setCell ⟨q, 0, none⟩ (PN y)).cell? ⟨p, 6, none⟩ = some (PN y) := m3.rd_cs p3 6
  have HM := hide (And.intro m4 u4)
  clear m3 m4 u4 h p3 hp hq hy _hyp y3
  go_enter Try.func68, Try.ntmps68
  go_wp2
  skip
  go_wp2
  go_region
  go_wp2

  go_end0
  first | exact ⟨rfl, (unhide HM).1, (unhide HM).2⟩ | exact ⟨rfl, (unhide HM).1.drew, (unhide HM).2.drew⟩ | exact ⟨rfl, (unhide HM).1.drew.drew, (unhide HM).2.drew.drew⟩
set_option maxHeartbeats 1000000 in
theorem leaveC_sn (h : Mem B lb mq mp w S) {q p a : Nat} {k : Ky} {ex hd : Bool} {n : Ln} {x : Nat} {cx : Cl} (hx : S.cs x = some cx) (hxp : x ≠ p) (hp : S.cs p = some ⟨a, k, ex, hd, (some x), none⟩) (hq : S.ln q = some n) :
    Calls Try.prog 68 #[PN q, PN p] w fun e w' => e = .returned (.tuple #[]) ∧ Mem B lb mq mp w' (unlC2 (unlC1 S q (some x) none) q (some x) none) ∧ Upd B w.heap.size w w' := by
  have m3 := h.set_cs (i := 6) (v := nilP) (c' := { cx with be := none }) hx rfl
  rw [md_up (g := fun n : Cl => { n with be := none }) hx] at m3
  have l3 : w.cell? ⟨x, 6, none⟩ = some (PO cx.be) := h.rd_cs hx 6
  have l3f : w.frozen? ⟨x, 6, none⟩ = false := h.fr_cs hx 6
  have p3 : ({ S with cs := md S.cs x fun n => { n with be := none } } : Sto).cs p = some ⟨a, k, ex, hd, (some x), none⟩ := by show md S.cs x _ p = _; simp [md, Ne.symm hxp, hp]
  have q3 : ({ S with cs := md S.cs x fun n => { n with be := none } } : Sto).ln q = some n := hq
  have m4 := m3.set_ln (i := 1) (v := (PN x)) (c' := { (n : Ln) with l := (some x) }) q3 rfl
  rw [md_up (g := fun n : Ln => { n with l := (some x) }) q3] at m4
  have l4 : (w.setCell ⟨x, 6, none⟩ nilP).cell? ⟨q, 1, none⟩ = some (PO n.l) := m3.rd_ln q3 1
  have l4f : (w.setCell ⟨x, 6, none⟩ nilP).frozen? ⟨q, 1, none⟩ = false := m3.fr_ln q3 1
  have u4 : Upd B w.heap.size w ((w.setCell ⟨x, 6, none⟩ nilP).setCell ⟨q, 1, none⟩ (PN x)) := ((Upd.refl _ _ _).setCell (.inl (h.cs x _ hx).2) _).setCell (.inl (h.ln q _ hq).2) _
  have a1 : w.cell? ⟨p, 5, none⟩ = some (PN x) := h.rd_cs hp 5
  have a2 : w.cell? ⟨p, 6, none⟩ = some nilP := h.rd_cs hp 6
  have a3 : (w.setCell ⟨x, 6, none⟩ nilP).cell? ⟨p, 5, none⟩ = some (PN x) := m3.rd_cs p3 5
  have a4 : (w.setCell ⟨x, 6, none⟩ nilP).cell? ⟨p, 6, none⟩ = some nilP := m3.rd_cs p3 6
  have HM := hide (And.intro m4 u4)
  clear m3 m4 u4 h p3 hp hq hx hxp q3
  go_enter Try.func68, Try.ntmps68
  go_wp2
  go_region
  go_wp2
  skip
  go_wp2

  go_end0
  first | exact ⟨rfl, (unhide HM).1, (unhide HM).2⟩ | exact ⟨rfl, (unhide HM).1.drew, (unhide HM).2.drew⟩ | exact ⟨rfl, (unhide HM).1.drew.drew, (unhide HM).2.drew.drew⟩
set_option maxHeartbeats 1000000 in
theorem leaveC_ss (h : Mem B lb mq mp w S) {q p a : Nat} {k : Ky} {ex hd : Bool} {n : Ln} {x : Nat} {cx : Cl} (hx : S.cs x = some cx) (hxp : x ≠ p) {y : Nat} {cy : Cl} (hy : S.cs y = some cy) (_hyp : y ≠ p) (hxy : y ≠ x) (hp : S.cs p = some ⟨a, k, ex, hd, (some x), (some y)⟩) (_hq : S.ln q = some n) :
    Calls Try.prog 68 #[PN q, PN p] w fun e w' => e = .returned (.tuple #[]) ∧ Mem B lb mq mp w' (unlC2 (unlC1 S q (some x) (some y)) q (some x) (some y)) ∧ Upd B w.heap.size w w' := by
  have m3 := h.set_cs (i := 6) (v := (PN y)) (c' := { cx with be := (some y) }) hx rfl
  rw [md_up (g := fun n : Cl => { n with be := (some y) }) hx] at m3
  have l3 : w.cell? ⟨x, 6, none⟩ = some (PO cx.be) := h.rd_cs hx 6
  have l3f : w.frozen? ⟨x, 6, none⟩ = false := h.fr_cs hx 6
  have p3 : ({ S with cs := md S.cs x fun n => { n with be := (some y) } } : Sto).cs p = some ⟨a, k, ex, hd, (some x), (some y)⟩ := by show md S.cs x _ p = _; simp [md, Ne.symm hxp, hp]
  have y3 : ({ S with cs := md S.cs x fun n => { n with be := (some y) } } : Sto).cs y = some cy := by show md S.cs x _ y = _; simp [md, hxy, hy]
  have m4 := m3.set_cs (i := 5) (v := (PN x)) (c' := { cy with ah := (some x) }) y3 rfl
  rw [md_up (g := fun n : Cl => { n with ah := (some x) }) y3] at m4
  have l4 : (w.setCell ⟨x, 6, none⟩ (PN y)).cell? ⟨y, 5, none⟩ = some (PO cy.ah) := m3.rd_cs y3 5
  have l4f : (w.setCell ⟨x, 6, none⟩ (PN y)).frozen? ⟨y, 5, none⟩ = false := m3.fr_cs y3 5
  have u4 : Upd B w.heap.size w ((w.setCell ⟨x, 6, none⟩ (PN y)).setCell ⟨y, 5, none⟩ (PN x)) := ((Upd.refl _ _ _).setCell (.inl (h.cs x _ hx).2) _).setCell (.inl (h.cs y _ hy).2) _
  have a1 : w.cell? ⟨p, 5, none⟩ = some (PN x) := h.rd_cs hp 5
  have a2 : w.cell? ⟨p, 6, none⟩ = some (PN y) := h.rd_cs hp 6
  have a3 : (w.setCell ⟨x, 6, none⟩ (PN y)).cell? ⟨p, 5, none⟩ = some (PN x) := m3.rd_cs p3 5
  have a4 : (w.setCell ⟨x, 6, none⟩ (PN y)).cell? ⟨p, 6, none⟩ = some (PN y) := m3.rd_cs p3 6
  have HM := hide (And.intro m4 u4)
  clear m3 m4 u4 h p3 hp _hq hx hxp hy _hyp hxy y3
  go_enter Try.func68, Try.ntmps68
  go_wp2
  go_region
  go_wp2
  go_region
  go_wp2

  go_end0
  first | exact ⟨rfl, (unhide HM).1, (unhide HM).2⟩ | exact ⟨rfl, (unhide HM).1.drew, (unhide HM).2.drew⟩ | exact ⟨rfl, (unhide HM).1.drew.drew, (unhide HM).2.drew.drew⟩
set_option maxHeartbeats 1000000 in
theorem leaveA_nn (h : Mem B lb mq mp w S) {p a : Nat} (hp : S.sp p = some ⟨a, none, none⟩) :
    Calls Try.prog 47 #[.pointer (some ⟨lb, 1, none⟩), PN p] w fun e w' => e = .returned (.tuple #[]) ∧ Mem B lb mq mp w' (unlA2 (unlA1 S none none) none none) ∧ Upd B w.heap.size w w' := by
  have m3 := h.set_top (i := 1) (v := nilP) (fi := none) (la := S.la) (asked := S.asked) rfl
  have l3 : w.cell? ⟨lb, 1, none⟩ = some (PO S.fi) := h.rd_top 1
  have l3f : w.frozen? ⟨lb, 1, none⟩ = false := h.fr_top 1
  have p3 : ({ S with fi := none } : Sto).sp p = some ⟨a, none, none⟩ := hp
  have m4 := m3.set_top (i := 2) (v := nilP) (fi := none) (la := none) (asked := S.asked) rfl
  have l4 : (w.setCell ⟨lb, 1, none⟩ nilP).cell? ⟨lb, 2, none⟩ = some (PO S.la) := m3.rd_top 2
  have l4f : (w.setCell ⟨lb, 1, none⟩ nilP).frozen? ⟨lb, 2, none⟩ = false := m3.fr_top 2
  have u4 : Upd B w.heap.size w ((w.setCell ⟨lb, 1, none⟩ nilP).setCell ⟨lb, 2, none⟩ nilP) := ((Upd.refl _ _ _).setCell (.inl h.bt.1) _).setCell (.inl h.bt.1) _
  have a1 : w.cell? ⟨p, 1, none⟩ = some nilP := h.rd_sp hp 1
  have a2 : w.cell? ⟨p, 2, none⟩ = some nilP := h.rd_sp hp 2
  have a3 : (w.setCell ⟨lb, 1, none⟩ nilP).cell? ⟨p, 1, none⟩ = some nilP := m3.rd_sp p3 1
  have a4 : (w.setCell ⟨lb, 1, none⟩ nilP).cell? ⟨p, 2, none⟩ = some nilP := m3.rd_sp p3 2
  have HM := hide (And.intro m4 u4)
  clear m3 m4 u4 h p3 hp
  go_enter Try.func47, Try.ntmps47
  go_wp2
  skip
  go_wp2
  skip
  go_wp2

  go_end0
  first | exact ⟨rfl, (unhide HM).1, (unhide HM).2⟩ | exact ⟨rfl, (unhide HM).1.drew, (unhide HM).2.drew⟩ | exact ⟨rfl, (unhide HM).1.drew.drew, (unhide HM).2.drew.drew⟩
set_option maxHeartbeats 1000000 in
theorem leaveA_ns (h : Mem B lb mq mp w S) {p a : Nat} {y : Nat} {cy : Sp} (hy : S.sp y = some cy) (_hyp : y ≠ p) (hp : S.sp p = some ⟨a, none, (some y)⟩) :
    Calls Try.prog 47 #[.pointer (some ⟨lb, 1, none⟩), PN p] w fun e w' => e = .returned (.tuple #[]) ∧ Mem B lb mq mp w' (unlA2 (unlA1 S none (some y)) none (some y)) ∧ Upd B w.heap.size w w' := by
  have m3 := h.set_top (i := 1) (v := (PN y)) (fi := (some y)) (la := S.la) (asked := S.asked) rfl
  have l3 : w.cell? ⟨lb, 1, none⟩ = some (PO S.fi) := h.rd_top 1
  have l3f : w.frozen? ⟨lb, 1, none⟩ = false := h.fr_top 1
  have p3 : ({ S with fi := (some y) } : Sto).sp p = some ⟨a, none, (some y)⟩ := hp
  have y3 : ({ S with fi := (some y) } : Sto).sp y = some cy := hy
  have m4 := m3.set_sp (i := 1) (v := nilP) (c' := { cy with ah := none }) y3 rfl
  rw [md_up (g := fun n : Sp => { n with ah := none }) y3] at m4
  have l4 : (w.setCell ⟨lb, 1, none⟩ (PN y)).cell? ⟨y, 1, none⟩ = some (PO cy.ah) := m3.rd_sp y3 1
  have l4f : (w.setCell ⟨lb, 1, none⟩ (PN y)).frozen? ⟨y, 1, none⟩ = false := m3.fr_sp y3 1
  have u4 : Upd B w.heap.size w ((w.setCell ⟨lb, 1, none⟩ (PN y)).setCell ⟨y, 1, none⟩ nilP) := ((Upd.refl _ _ _).setCell (.inl h.bt.1) _).setCell (.inl (h.sp y _ hy).2) _
  have a1 : w.cell? ⟨p, 1, none⟩ = some nilP := h.rd_sp hp 1
  have a2 : w.cell? ⟨p, 2, none⟩ = some (PN y) := h.rd_sp hp 2
  have a3 : (w.setCell ⟨lb, 1, none⟩ (PN y)).cell? ⟨p, 1, none⟩ = some nilP := m3.rd_sp p3 1
  have a4 : (w.setCell ⟨lb, 1, none⟩ (PN y)).cell? ⟨p, 2, none⟩ = some (PN y) := m3.rd_sp p3 2
  have HM := hide (And.intro m4 u4)
  clear m3 m4 u4 h p3 hp hy _hyp y3
  go_enter Try.func47, Try.ntmps47
  go_wp2
  skip
  go_wp2
  go_region
  go_wp2

  go_end0
  first | exact ⟨rfl, (unhide HM).1, (unhide HM).2⟩ | exact ⟨rfl, (unhide HM).1.drew, (unhide HM).2.drew⟩ | exact ⟨rfl, (unhide HM).1.drew.drew, (unhide HM).2.drew.drew⟩
set_option maxHeartbeats 1000000 in
theorem leaveA_sn (h : Mem B lb mq mp w S) {p a : Nat} {x : Nat} {cx : Sp} (hx : S.sp x = some cx) (hxp : x ≠ p) (hp : S.sp p = some ⟨a, (some x), none⟩) :
    Calls Try.prog 47 #[.pointer (some ⟨lb, 1, none⟩), PN p] w fun e w' => e = .returned (.tuple #[]) ∧ Mem B lb mq mp w' (unlA2 (unlA1 S (some x) none) (some x) none) ∧ Upd B w.heap.size w w' := by
  have m3 := h.set_sp (i := 2) (v := nilP) (c' := { cx with be := none }) hx rfl
  rw [md_up (g := fun n : Sp => { n with be := none }) hx] at m3
  have l3 : w.cell? ⟨x, 2, none⟩ = some (PO cx.be) := h.rd_sp hx 2
  have l3f : w.frozen? ⟨x, 2, none⟩ = false := h.fr_sp hx 2
  have p3 : ({ S with sp := md S.sp x fun n => { n with be := none } } : Sto).sp p = some ⟨a, (some x), none⟩ := by show md S.sp x _ p = _; simp [md, Ne.symm hxp, hp]
  have m4 := m3.set_top (i := 2) (v := (PN x)) (fi := S.fi) (la := (some x)) (asked := S.asked) rfl
  have l4 : (w.setCell ⟨x, 2, none⟩ nilP).cell? ⟨lb, 2, none⟩ = some (PO S.la) := m3.rd_top 2
  have l4f : (w.setCell ⟨x, 2, none⟩ nilP).frozen? ⟨lb, 2, none⟩ = false := m3.fr_top 2
  have u4 : Upd B w.heap.size w ((w.setCell ⟨x, 2, none⟩ nilP).setCell ⟨lb, 2, none⟩ (PN x)) := ((Upd.refl _ _ _).setCell (.inl (h.sp x _ hx).2) _).setCell (.inl h.bt.1) _
  have a1 : w.cell? ⟨p, 1, none⟩ = some (PN x) := h.rd_sp hp 1
  have a2 : w.cell? ⟨p, 2, none⟩ = some nilP := h.rd_sp hp 2
  have a3 : (w.setCell ⟨x, 2, none⟩ nilP).cell? ⟨p, 1, none⟩ = some (PN x) := m3.rd_sp p3 1
  have a4 : (w.setCell ⟨x, 2, none⟩ nilP).cell? ⟨p, 2, none⟩ = some nilP := m3.rd_sp p3 2
  have HM := hide (And.intro m4 u4)
  clear m3 m4 u4 h p3 hp hx hxp
  go_enter Try.func47, Try.ntmps47
  go_wp2
  go_region
  go_wp2
  skip
  go_wp2

  go_end0
  first | exact ⟨rfl, (unhide HM).1, (unhide HM).2⟩ | exact ⟨rfl, (unhide HM).1.drew, (unhide HM).2.drew⟩ | exact ⟨rfl, (unhide HM).1.drew.drew, (unhide HM).2.drew.drew⟩
set_option maxHeartbeats 1000000 in
theorem leaveA_ss (h : Mem B lb mq mp w S) {p a : Nat} {x : Nat} {cx : Sp} (hx : S.sp x = some cx) (hxp : x ≠ p) {y : Nat} {cy : Sp} (hy : S.sp y = some cy) (_hyp : y ≠ p) (hxy : y ≠ x) (hp : S.sp p = some ⟨a, (some x), (some y)⟩) :
    Calls Try.prog 47 #[.pointer (some ⟨lb, 1, none⟩), PN p] w fun e w' => e = .returned (.tuple #[]) ∧ Mem B lb mq mp w' (unlA2 (unlA1 S (some x) (some y)) (some x) (some y)) ∧ Upd B w.heap.size w w' := by
  have m3 := h.set_sp (i := 2) (v := (PN y)) (c' := { cx with be := (some y) }) hx rfl
  rw [md_up (g := fun n : Sp => { n with be := (some y) }) hx] at m3
  have l3 : w.cell? ⟨x, 2, none⟩ = some (PO cx.be) := h.rd_sp hx 2
  have l3f : w.frozen? ⟨x, 2, none⟩ = false := h.fr_sp hx 2
  have p3 : ({ S with sp := md S.sp x fun n => { n with be := (some y) } } : Sto).sp p = some ⟨a, (some x), (some y)⟩ := by show md S.sp x _ p = _; simp [md, Ne.symm hxp, hp]
  have y3 : ({ S with sp := md S.sp x fun n => { n with be := (some y) } } : Sto).sp y = some cy := by show md S.sp x _ y = _; simp [md, hxy, hy]
  have m4 := m3.set_sp (i := 1) (v := (PN x)) (c' := { cy with ah := (some x) }) y3 rfl
  rw [md_up (g := fun n : Sp => { n with ah := (some x) }) y3] at m4
  have l4 : (w.setCell ⟨x, 2, none⟩ (PN y)).cell? ⟨y, 1, none⟩ = some (PO cy.ah) := m3.rd_sp y3 1
  have l4f : (w.setCell ⟨x, 2, none⟩ (PN y)).frozen? ⟨y, 1, none⟩ = false := m3.fr_sp y3 1
  have u4 : Upd B w.heap.size w ((w.setCell ⟨x, 2, none⟩ (PN y)).setCell ⟨y, 1, none⟩ (PN x)) := ((Upd.refl _ _ _).setCell (.inl (h.sp x _ hx).2) _).setCell (.inl (h.sp y _ hy).2) _
  have a1 : w.cell? ⟨p, 1, none⟩ = some (PN x) := h.rd_sp hp 1
  have a2 : w.cell? ⟨p, 2, none⟩ = some (PN y) := h.rd_sp hp 2
  have a3 : (w.setCell ⟨x, 2, none⟩ (PN y)).cell? ⟨p, 1, none⟩ = some (PN x) := m3.rd_sp p3 1
  have a4 : (w.setCell ⟨x, 2, none⟩ (PN y)).cell? ⟨p, 2, none⟩ = some (PN y) := m3.rd_sp p3 2
  have HM := hide (And.intro m4 u4)
  clear m3 m4 u4 h p3 hp hx hxp hy _hyp hxy y3
  go_enter Try.func47, Try.ntmps47
  go_wp2
  go_region
  go_wp2
  go_region
  go_wp2

  go_end0
  first | exact ⟨rfl, (unhide HM).1, (unhide HM).2⟩ | exact ⟨rfl, (unhide HM).1.drew, (unhide HM).2.drew⟩ | exact ⟨rfl, (unhide HM).1.drew.drew, (unhide HM).2.drew.drew⟩
end
end Go.Proofs.Yteenbebpdibbcaa
