/- made, find, Ready, New. -/
import Derived.Test.YteenbebpdibbcaaS2
namespace Go.Proofs.Yteenbebpdibbcaa
open Go.RowKit
set_option maxRecDepth 100000

theorem Try.under72 : Try.prog.underlying 72 = some (.map 29 69) := by kernel_rfl
theorem Try.under68 : Try.prog.underlying 68 = some (.map 45 92) := by kernel_rfl
theorem Mem.lookP {B : Nat → Prop} {lb mq mp : Nat} {w : World} {S : Sto} (h : Mem B lb mq mp w S) (a b : Int) (hk : I.OkK (a, b)) {o : Option Nat} (ho : S.P (a, b) = o) : (Instr.lookup 72 (.map (some mp)) (.agg #[.int .i64 a, .int .i64 b]) false).run Try.prog w = .ok (PO o) w := by
  have := h.p.look1 Try.under72 (z := nilP) Try.zeroValue69 a b hk
  rw [ho] at this
  cases o <;> exact this
theorem Mem.lookQ {B : Nat → Prop} {lb mq mp : Nat} {w : World} {S : Sto} (h : Mem B lb mq mp w S) (a b : Int) (hk : OkK (a, b)) {o : Option Nat} (ho : S.Q (a, b) = o) : (Instr.lookup 68 (.map (some mq)) (.agg #[.int .i32 a, .int .i64 b]) false).run Try.prog w = .ok (PO o) w := by
  have := h.q.look1 Try.under68 (z := nilP) Try.zeroValue92 a b hk
  rw [ho] at this
  cases o <;> exact this
theorem Mem.lookP_no {B : Nat → Prop} {lb mq mp : Nat} {w : World} {S : Sto} (h : Mem B lb mq mp w S) (a b : Int) (hk : I.OkK (a, b)) (ho : S.P (a, b) = none) : (Instr.lookup 72 (.map (some mp)) (.agg #[.int .i64 a, .int .i64 b]) false).run Try.prog w = .ok nilP w := h.lookP a b hk ho
theorem Mem.lookP_has {B : Nat → Prop} {lb mq mp : Nat} {w : World} {S : Sto} (h : Mem B lb mq mp w S) (a b : Int) (hk : I.OkK (a, b)) {p : Nat} (ho : S.P (a, b) = some p) : (Instr.lookup 72 (.map (some mp)) (.agg #[.int .i64 a, .int .i64 b]) false).run Try.prog w = .ok (PN p) w := h.lookP a b hk ho
theorem Mem.lookQ_no {B : Nat → Prop} {lb mq mp : Nat} {w : World} {S : Sto} (h : Mem B lb mq mp w S) (a b : Int) (hk : OkK (a, b)) (ho : S.Q (a, b) = none) : (Instr.lookup 68 (.map (some mq)) (.agg #[.int .i32 a, .int .i64 b]) false).run Try.prog w = .ok nilP w := h.lookQ a b hk ho
theorem Mem.lookQ_has {B : Nat → Prop} {lb mq mp : Nat} {w : World} {S : Sto} (h : Mem B lb mq mp w S) (a b : Int) (hk : OkK (a, b)) {p : Nat} (ho : S.Q (a, b) = some p) : (Instr.lookup 68 (.map (some mq)) (.agg #[.int .i32 a, .int .i64 b]) false).run Try.prog w = .ok (PN p) w := h.lookQ a b hk ho
@[local go_sem] theorem neqMap72 (m : Option Nat) (w : World) : (binOp .neq 72 (.map m) (.map none)).run Try.prog w = .ok (.bool (!m.isNone)) w := run_neq_map_nil w 72 29 69 m Try.under72
theorem made_yes (lb m : Nat) (w : World) (h : w.cell? ⟨lb, 3, none⟩ = some (.map (some m))) : Calls Try.prog 41 #[PN lb] w fun e w' => e = .returned (.bool true) ∧ w = w' := by
  go_enter Try.func41, Try.ntmps41
  go_wp2
  go_ret
  exact ⟨rfl, rfl⟩
theorem made_nil (w : World) : Calls Try.prog 41 #[nilP] w fun e w' => e = .returned (.bool false) ∧ w = w' := by
  go_enter Try.func41, Try.ntmps41
  go_wp2
  go_ret
  exact ⟨rfl, rfl⟩
theorem made_zero (lb : Nat) (w : World) (h : w.cell? ⟨lb, 3, none⟩ = some (.map none)) : Calls Try.prog 41 #[PN lb] w fun e w' => e = .returned (.bool false) ∧ w = w' := by
  go_enter Try.func41, Try.ntmps41
  go_wp2
  go_ret
  exact ⟨rfl, rfl⟩
section
variable {B : Nat → Prop} {lb mq mp : Nat} {w : World} {S : Sto}
set_option maxHeartbeats 1000000 in
theorem find_any (h : Mem B lb mq mp w S) (a b : Int) (hk : I.OkK (a, b)) (hs : ∀ p, S.P (a, b) = some p → ∃ s, S.sp p = some s) :
    Calls Try.prog 59 #[PN lb, .agg #[.int .i64 a, .int .i64 b]] w fun e w' => e = .returned (PO (((S.P (a, b)).bind S.sp).map Sp.of)) ∧ Below w.heap.size w w' := by
  obtain ⟨W1, hW1⟩ : ∃ z, w.alloc (.cells #[.int .i64 a, .int .i64 b] 29) = z := ⟨_, rfl⟩
  have b1 : Below w.heap.size w W1 := hW1 ▸ below_box _
  have m1 := h.below b1
  have hc : W1.heap[w.heap.size]? = some (.cells #[.int .i64 a, .int .i64 b] 29) := by rw [← hW1]; exact heap_alloc_new w _
  obtain ⟨Wd, hWd⟩ : ∃ z, W1.drew = z := ⟨_, rfl⟩
  have md : Mem B lb mq mp Wd S := hWd ▸ m1.drew
  have l3 : Wd.cell? ⟨lb, 3, none⟩ = some (.map (some mp)) := md.rd_top 3
  have c0 : Wd.cell? ⟨w.heap.size, 0, none⟩ = some (.int .i64 a) := hWd ▸ cell_at hc
  have c1 : Wd.cell? ⟨w.heap.size, 1, none⟩ = some (.int .i64 b) := hWd ▸ cell_at hc
  have bd : Below w.heap.size w Wd := hWd ▸ ⟨b1.os, b1.tape, b1.output, b1.size, b1.block⟩
  have HMd : Hid (∀ x, x = Wd → Calls Try.prog 41 #[PN lb] x fun e w' => e = .returned (.bool true) ∧ w' = Wd) := fun x hx => by
    subst hx
    exact (made_yes lb mp x l3).mono fun e w' h => ⟨h.1, h.2.symm⟩
  cases hP : S.P (a, b) with
  | none =>
    have hL := md.lookP_no a b hk hP
    have HB := hide bd
    clear m1 md h hs b1 bd hc
    go_enter Try.func59, Try.ntmps59
    go_wp2
    try rw [hW1]
    refine wp_region_held_drew (S := fun x => x = Wd) (by kernel_rfl) hWd (fun hHeld => ?_)
    refine wpAnyH_take (i := 0) (v := ?v1x0) rfl (by kernel_rfl) (by kernel_rfl) (by kernel_rfl) (fun _ _ _ h => h) (Or.inl ⟨by rfl, ?hy1x0⟩) (by assumption) ?rest1x0
    case hy1x0 => intro w hSw; subst hSw; go_simp <;> with_reducible rfl
    simp only [Act.put, List.getElem_toArray, List.getElem_cons_zero, List.setIfInBounds_toArray, List.set_cons_zero, List.set_cons_succ]
    refine wpAnyH_ready (rs := [1]) (by kernel_rfl) (by simp) ?_
    refine AllReadyH.cons rfl (fun K hK => ?_) AllReadyH.nil
    go_simp
    refine (unhide HMd _ rfl).mono ?_
    rintro e wq ⟨rfl, hb1⟩
    refine hK _ _ hb1 ?_
    clear hK hHeld
    intro hHeld
    refine wpAnyH_take (i := 2) (v := ?v2x2) rfl (by kernel_rfl) (by kernel_rfl) (by kernel_rfl) (fun _ _ _ h => h) (Or.inl ⟨by rfl, ?hy2x2⟩) (by assumption) ?rest2x2
    case hy2x2 => intro w hSw; subst hSw; go_simp <;> with_reducible rfl
    simp only [Act.put, List.getElem_toArray, List.getElem_cons_zero, List.getElem_cons_succ, List.setIfInBounds_toArray, List.set_cons_zero, List.set_cons_succ]
    refine wpAnyH_take (i := 3) (v := ?v3x3) rfl (by kernel_rfl) (by kernel_rfl) (by kernel_rfl) (fun _ _ _ h => h) (Or.inl ⟨by rfl, ?hy3x3⟩) (by assumption) ?rest3x3
    case hy3x3 => intro w hSw; subst hSw; go_simp <;> with_reducible rfl
    simp only [Act.put, List.getElem_toArray, List.getElem_cons_zero, List.getElem_cons_succ, List.setIfInBounds_toArray, List.set_cons_zero, List.set_cons_succ]
    refine wpAnyH_take (i := 4) (v := ?v4x4) rfl (by kernel_rfl) (by kernel_rfl) (by kernel_rfl) (fun _ _ _ h => h) (Or.inl ⟨by rfl, ?hy4x4⟩) (by assumption) ?rest4x4
    case hy4x4 => intro w hSw; subst hSw; go_simp <;> with_reducible rfl
    simp only [Act.put, List.getElem_toArray, List.getElem_cons_zero, List.getElem_cons_succ, List.setIfInBounds_toArray, List.set_cons_zero, List.set_cons_succ]
    refine wpAnyH_take (i := 5) (v := ?v5x5) rfl (by kernel_rfl) (by kernel_rfl) (by kernel_rfl) (fun _ _ _ h => h) (Or.inl ⟨by rfl, ?hy5x5⟩) (by assumption) ?rest5x5
    case hy5x5 => intro w hSw; subst hSw; go_simp <;> with_reducible rfl
    simp only [Act.put, List.getElem_toArray, List.getElem_cons_zero, List.getElem_cons_succ, List.setIfInBounds_toArray, List.set_cons_zero, List.set_cons_succ]
    refine wpAnyH_take (i := 6) (v := ?v6x6) rfl (by kernel_rfl) (by kernel_rfl) (by kernel_rfl) (fun _ _ _ h => h) (Or.inl ⟨by rfl, ?hy6x6⟩) (by assumption) ?rest6x6
    case hy6x6 => intro w hSw; subst hSw; go_simp <;> with_reducible rfl
    simp only [Act.put, List.getElem_toArray, List.getElem_cons_zero, List.getElem_cons_succ, List.setIfInBounds_toArray, List.set_cons_zero, List.set_cons_succ]
    refine wpAnyH_take (i := 7) (v := ?v7x7) rfl (by kernel_rfl) (by kernel_rfl) (by kernel_rfl) (fun _ _ _ h => h) (Or.inl ⟨by rfl, ?hy7x7⟩) (by assumption) ?rest7x7
    case hy7x7 => intro w hSw; subst hSw; go_simp <;> with_reducible rfl
    simp only [Act.put, List.getElem_toArray, List.getElem_cons_zero, List.getElem_cons_succ, List.setIfInBounds_toArray, List.set_cons_zero, List.set_cons_succ]
    refine wpAnyH_take (i := 8) (v := ?v8x8) rfl (by kernel_rfl) (by kernel_rfl) (by kernel_rfl) (fun _ _ _ h => h) (Or.inl ⟨by rfl, ?hy8x8⟩) (by assumption) ?rest8x8
    case hy8x8 => intro w hSw; subst hSw; go_simp <;> with_reducible rfl
    simp only [Act.put, List.getElem_toArray, List.getElem_cons_zero, List.getElem_cons_succ, List.setIfInBounds_toArray, List.set_cons_zero, List.set_cons_succ]
    refine wpAnyH_take (i := 9) (v := ?v9x9) rfl (by kernel_rfl) (by kernel_rfl) (by kernel_rfl) (fun _ _ _ h => h) (Or.inl ⟨by rfl, ?hy9x9⟩) (by assumption) ?rest9x9
    case hy9x9 => intro w hSw; subst hSw; go_simp <;> with_reducible rfl
    simp only [Act.put, List.getElem_toArray, List.getElem_cons_zero, List.getElem_cons_succ, List.setIfInBounds_toArray, List.set_cons_zero, List.set_cons_succ]
    refine wpAnyH_take (i := 10) (v := ?v10x10) rfl (by kernel_rfl) (by kernel_rfl) (by kernel_rfl) (fun _ _ _ h => h) (Or.inl ⟨by rfl, ?hy10x10⟩) (by assumption) ?rest10x10
    case hy10x10 => intro w hSw; subst hSw; go_simp <;> with_reducible rfl
    simp only [Act.put, List.getElem_toArray, List.getElem_cons_zero, List.getElem_cons_succ, List.setIfInBounds_toArray, List.set_cons_zero, List.set_cons_succ]
    refine wpAnyH_take (i := 11) (v := ?v11x11) rfl (by kernel_rfl) (by kernel_rfl) (by kernel_rfl) (fun _ _ _ h => h) (Or.inl ⟨by rfl, ?hy11x11⟩) (by assumption) ?rest11x11
    case hy11x11 => intro w hSw; subst hSw; go_simp <;> with_reducible rfl
    simp only [Act.put, List.getElem_toArray, List.getElem_cons_zero, List.getElem_cons_succ, List.setIfInBounds_toArray, List.set_cons_zero, List.set_cons_succ]
    refine wpAnyH_done (by kernel_rfl) ?_ _
    subst hb1
    go_wp2
    skip
    go_ret
    exact ⟨rfl, unhide HB⟩
  | some p =>
    obtain ⟨s, hs⟩ := hs p hP
    have hL := md.lookP_has a b hk hP
    have hL2 := md.drew.lookP_has a b hk hP
    have r1 : Wd.cell? ⟨p, 0, none⟩ = some (PN s.of) := md.rd_sp hs 0
    have HB := hide bd
    clear m1 md h b1 bd hc
    go_enter Try.func59, Try.ntmps59
    go_wp2
    try rw [hW1]
    refine wp_region_held_drew (S := fun x => x = Wd) (by kernel_rfl) hWd (fun hHeld => ?_)
    refine wpAnyH_take (i := 0) (v := ?v12x0) rfl (by kernel_rfl) (by kernel_rfl) (by kernel_rfl) (fun _ _ _ h => h) (Or.inl ⟨by rfl, ?hy12x0⟩) (by assumption) ?rest12x0
    case hy12x0 => intro w hSw; subst hSw; go_simp <;> with_reducible rfl
    simp only [Act.put, List.getElem_toArray, List.getElem_cons_zero, List.setIfInBounds_toArray, List.set_cons_zero, List.set_cons_succ]
    refine wpAnyH_ready (rs := [1]) (by kernel_rfl) (by simp) ?_
    refine AllReadyH.cons rfl (fun K hK => ?_) AllReadyH.nil
    go_simp
    refine (unhide HMd _ rfl).mono ?_
    rintro e wq ⟨rfl, hb1⟩
    refine hK _ _ hb1 ?_
    clear hK hHeld
    intro hHeld
    refine wpAnyH_take (i := 2) (v := ?v13x2) rfl (by kernel_rfl) (by kernel_rfl) (by kernel_rfl) (fun _ _ _ h => h) (Or.inl ⟨by rfl, ?hy13x2⟩) (by assumption) ?rest13x2
    case hy13x2 => intro w hSw; subst hSw; go_simp <;> with_reducible rfl
    simp only [Act.put, List.getElem_toArray, List.getElem_cons_zero, List.getElem_cons_succ, List.setIfInBounds_toArray, List.set_cons_zero, List.set_cons_succ]
    refine wpAnyH_take (i := 3) (v := ?v14x3) rfl (by kernel_rfl) (by kernel_rfl) (by kernel_rfl) (fun _ _ _ h => h) (Or.inl ⟨by rfl, ?hy14x3⟩) (by assumption) ?rest14x3
    case hy14x3 => intro w hSw; subst hSw; go_simp <;> with_reducible rfl
    simp only [Act.put, List.getElem_toArray, List.getElem_cons_zero, List.getElem_cons_succ, List.setIfInBounds_toArray, List.set_cons_zero, List.set_cons_succ]
    refine wpAnyH_take (i := 4) (v := ?v15x4) rfl (by kernel_rfl) (by kernel_rfl) (by kernel_rfl) (fun _ _ _ h => h) (Or.inl ⟨by rfl, ?hy15x4⟩) (by assumption) ?rest15x4
    case hy15x4 => intro w hSw; subst hSw; go_simp <;> with_reducible rfl
    simp only [Act.put, List.getElem_toArray, List.getElem_cons_zero, List.getElem_cons_succ, List.setIfInBounds_toArray, List.set_cons_zero, List.set_cons_succ]
    refine wpAnyH_take (i := 5) (v := ?v16x5) rfl (by kernel_rfl) (by kernel_rfl) (by kernel_rfl) (fun _ _ _ h => h) (Or.inl ⟨by rfl, ?hy16x5⟩) (by assumption) ?rest16x5
    case hy16x5 => intro w hSw; subst hSw; go_simp <;> with_reducible rfl
    simp only [Act.put, List.getElem_toArray, List.getElem_cons_zero, List.getElem_cons_succ, List.setIfInBounds_toArray, List.set_cons_zero, List.set_cons_succ]
    refine wpAnyH_take (i := 6) (v := ?v17x6) rfl (by kernel_rfl) (by kernel_rfl) (by kernel_rfl) (fun _ _ _ h => h) (Or.inl ⟨by rfl, ?hy17x6⟩) (by assumption) ?rest17x6
    case hy17x6 => intro w hSw; subst hSw; go_simp <;> with_reducible rfl
    simp only [Act.put, List.getElem_toArray, List.getElem_cons_zero, List.getElem_cons_succ, List.setIfInBounds_toArray, List.set_cons_zero, List.set_cons_succ]
    refine wpAnyH_take (i := 7) (v := ?v18x7) rfl (by kernel_rfl) (by kernel_rfl) (by kernel_rfl) (fun _ _ _ h => h) (Or.inl ⟨by rfl, ?hy18x7⟩) (by assumption) ?rest18x7
    case hy18x7 => intro w hSw; subst hSw; go_simp <;> with_reducible rfl
    simp only [Act.put, List.getElem_toArray, List.getElem_cons_zero, List.getElem_cons_succ, List.setIfInBounds_toArray, List.set_cons_zero, List.set_cons_succ]
    refine wpAnyH_take (i := 8) (v := ?v19x8) rfl (by kernel_rfl) (by kernel_rfl) (by kernel_rfl) (fun _ _ _ h => h) (Or.inl ⟨by rfl, ?hy19x8⟩) (by assumption) ?rest19x8
    case hy19x8 => intro w hSw; subst hSw; go_simp <;> with_reducible rfl
    simp only [Act.put, List.getElem_toArray, List.getElem_cons_zero, List.getElem_cons_succ, List.setIfInBounds_toArray, List.set_cons_zero, List.set_cons_succ]
    refine wpAnyH_take (i := 9) (v := ?v20x9) rfl (by kernel_rfl) (by kernel_rfl) (by kernel_rfl) (fun _ _ _ h => h) (Or.inl ⟨by rfl, ?hy20x9⟩) (by assumption) ?rest20x9
    case hy20x9 => intro w hSw; subst hSw; go_simp <;> with_reducible rfl
    simp only [Act.put, List.getElem_toArray, List.getElem_cons_zero, List.getElem_cons_succ, List.setIfInBounds_toArray, List.set_cons_zero, List.set_cons_succ]
    refine wpAnyH_take (i := 10) (v := ?v21x10) rfl (by kernel_rfl) (by kernel_rfl) (by kernel_rfl) (fun _ _ _ h => h) (Or.inl ⟨by rfl, ?hy21x10⟩) (by assumption) ?rest21x10
    case hy21x10 => intro w hSw; subst hSw; go_simp <;> with_reducible rfl
    simp only [Act.put, List.getElem_toArray, List.getElem_cons_zero, List.getElem_cons_succ, List.setIfInBounds_toArray, List.set_cons_zero, List.set_cons_succ]
    refine wpAnyH_take (i := 11) (v := ?v22x11) rfl (by kernel_rfl) (by kernel_rfl) (by kernel_rfl) (fun _ _ _ h => h) (Or.inl ⟨by rfl, ?hy22x11⟩) (by assumption) ?rest22x11
    case hy22x11 => intro w hSw; subst hSw; go_simp <;> with_reducible rfl
    simp only [Act.put, List.getElem_toArray, List.getElem_cons_zero, List.getElem_cons_succ, List.setIfInBounds_toArray, List.set_cons_zero, List.set_cons_succ]
    refine wpAnyH_done (by kernel_rfl) ?_ _
    subst hb1
    go_wp2
    go_region
    go_wp2
    go_ret
    exact ⟨by rw [Option.bind_some, hs]; rfl, ⟨(unhide HB).os, (unhide HB).tape, (unhide HB).output, (unhide HB).size, (unhide HB).block⟩⟩
end
end Go.Proofs.Yteenbebpdibbcaa
