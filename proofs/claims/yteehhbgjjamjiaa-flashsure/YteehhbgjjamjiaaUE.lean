/- slices.Equal of a flash's blocks and their copy; Same. -/
import Derived.Test.YteehhbgjjamjiaaUD
import Derived.Deep.RegionHeld
namespace Go.Proofs.Yteehhbgjjamjiaa
open Go.RowKit

theorem blk_page (F : Fl) (i j : Nat) (hj : j < 16) : (F.blk i).toArray.extract (j * 2) (j * 2 + 2) = #[.int .i64 (F.st i j), .string (F.bs i j)] := by
  have hs : (F.blk i).toArray.size = 33 := by rw [List.size_toArray, blk_length]
  apply Array.ext_getElem?
  intro t
  by_cases h0 : t < 2
  · have e : ((F.blk i).toArray.extract (j * 2) (j * 2 + 2))[t]? = some (F.cellAt (i * 33 + (j * 2 + t))) := by
      rw [Array.getElem?_extract, if_pos (by omega), List.getElem?_toArray]
      exact blk_at F i (j * 2 + t) (by omega)
    rw [e]
    rcases (by omega : t = 0 ∨ t = 1) with rfl | rfl
    · rw [Nat.add_zero, cellAt_st F i j hj]; rfl
    · rw [← Nat.add_assoc, cellAt_bs F i j hj]; rfl
  · rw [Array.getElem?_eq_none (by rw [Array.size_extract]; omega), Array.getElem?_eq_none (by show 2 ≤ t; omega)]
theorem blk_wear (F : Fl) (i : Nat) : (F.blk i).toArray[32]? = some (.int .i64 (F.wear i)) := by
  rw [List.getElem?_toArray, blk_at F i 32 (by omega), cellAt_wear]
theorem blk_neq (F : Fl) (i : Nat) (w : World) : (binOp .neq 81 (.agg (F.blk i).toArray) (.agg (F.blk i).toArray)).run Try.prog w = .ok (.bool false) w := by
  have h := eq_blk 9996 (F.blk i).toArray (F.st i) (F.bs i) (F.wear i) w (fun j hj => blk_page F i j hj) (blk_wear F i)
  rw [run_neq_struct, show (10000 : Nat) = 9996 + 4 from rfl, h]
  rfl

theorem Try.guard81 : Try.prog.eqGuardType Try.prog.depth 81 = false := by kernel_rfl

set_option maxRecDepth 100000 in
set_option maxHeartbeats 1600000 in
theorem sequal_any {w : World} {g h cap g' h' cap' : Nat} {F : Fl} (H : IsFl w g h cap F) (H' : IsFl w g' h' cap' F) :
    Calls Try.prog 55 #[.slice (some ⟨g, 0, none⟩) F.n cap, .slice (some ⟨g', 0, none⟩) F.n cap'] w fun e w' => e = .returned (.bool true) ∧ Below w.heap.size w w' := by
  have hle := H.le; have hf := H.fit; have hf' := H'.fit
  have hgd := Try.guard81
  have HH := hide H; have HH' := hide H'
  clear H H'
  go_enter Try.func55, Try.ntmps55
  go_wp2
  go_loopw [13] (fun c wr => ∃ k : Nat, k ≤ F.n ∧ c = .int .i64 k ∧ Below w.heap.size w wr) (fun c _ => F.n - (intOf c).toNat)
  case atStart => exact ⟨0, by omega, rfl, Below.refl _ _⟩
  case round =>
    obtain ⟨i, hi, rfl, hbl⟩ := hrel
    have HBL := hide hbl
    by_cases hlt : i < F.n
    · have hbn := blk_neq F i
      have hr1 := ((unhide HH).below hbl).drew.range i hlt
      have hr2 := ((unhide HH').below hbl).drew.range i hlt
      clear hbl
      go_wp2
      refine wp_region_held_drew (S := fun w' => w'.rangeAt g (i * 33) (F.blk i) ∧ w'.rangeAt g' (i * 33) (F.blk i)) (by kernel_rfl) ⟨hr1, hr2⟩ (fun hHeld => ?_)
      clear hr1 hr2
      refine wpAnyH_take (i := 0) (v := ?v0) rfl (by kernel_rfl) (by kernel_rfl) (by kernel_rfl) (fun _ _ _ h => h) (Or.inl ⟨by rfl, ?hy0⟩) (by assumption) ?rest0
      case hy0 => intro w hSw; go_simp <;> with_reducible rfl
      simp only [Act.put, List.getElem_toArray, List.getElem_cons_zero, List.setIfInBounds_toArray, List.set_cons_zero, List.set_cons_succ]
      refine wpAnyH_take (i := 1) (v := ?v1) rfl (by kernel_rfl) (by kernel_rfl) (by kernel_rfl) (fun _ _ _ h => h) (Or.inl ⟨by rfl, ?hy1⟩) (by assumption) ?rest1
      case hy1 => intro w hSw; go_simp <;> with_reducible rfl
      simp only [Act.put, List.getElem_toArray, List.getElem_cons_zero, List.getElem_cons_succ, List.setIfInBounds_toArray, List.set_cons_zero, List.set_cons_succ]
      refine wpAnyH_take (i := 2) (v := ?v2) rfl (by kernel_rfl) (by kernel_rfl) (by kernel_rfl) (fun _ _ _ h => h) (Or.inl ⟨by rfl, ?hy2⟩) (by assumption) ?rest2
      case hy2 => intro w hSw; go_simp <;> with_reducible rfl
      simp only [Act.put, List.getElem_toArray, List.getElem_cons_zero, List.getElem_cons_succ, List.setIfInBounds_toArray, List.set_cons_zero, List.set_cons_succ]
      refine wpAnyH_take (i := 3) (v := .agg (F.blk i).toArray) rfl (by kernel_rfl) (by kernel_rfl) (by kernel_rfl) (fun _ _ _ h => h) (yieldsIf_load_mid (by rfl) 81 (.tmp 18) rfl g (i * 33) (by rfl) (F.blk i) _ (fun w hw => hw.1) Try.underlying81 rfl (by rw [blk_length]; exact Try.size81)) (by assumption) ?rest3
      simp only [Act.put, List.getElem_toArray, List.getElem_cons_zero, List.getElem_cons_succ, List.setIfInBounds_toArray, List.set_cons_zero, List.set_cons_succ]
      refine wpAnyH_take (i := 4) (v := ?v4) rfl (by kernel_rfl) (by kernel_rfl) (by kernel_rfl) (fun _ _ _ h => h) (Or.inl ⟨by rfl, ?hy4⟩) (by assumption) ?rest4
      case hy4 => intro w hSw; go_simp <;> with_reducible rfl
      simp only [Act.put, List.getElem_toArray, List.getElem_cons_zero, List.getElem_cons_succ, List.setIfInBounds_toArray, List.set_cons_zero, List.set_cons_succ]
      refine wpAnyH_take (i := 5) (v := ?v5) rfl (by kernel_rfl) (by kernel_rfl) (by kernel_rfl) (fun _ _ _ h => h) (Or.inl ⟨by rfl, ?hy5⟩) (by assumption) ?rest5
      case hy5 => intro w hSw; go_simp <;> with_reducible rfl
      simp only [Act.put, List.getElem_toArray, List.getElem_cons_zero, List.getElem_cons_succ, List.setIfInBounds_toArray, List.set_cons_zero, List.set_cons_succ]
      refine wpAnyH_take (i := 6) (v := ?v6) rfl (by kernel_rfl) (by kernel_rfl) (by kernel_rfl) (fun _ _ _ h => h) (Or.inl ⟨by rfl, ?hy6⟩) (by assumption) ?rest6
      case hy6 => intro w hSw; go_simp <;> with_reducible rfl
      simp only [Act.put, List.getElem_toArray, List.getElem_cons_zero, List.getElem_cons_succ, List.setIfInBounds_toArray, List.set_cons_zero, List.set_cons_succ]
      refine wpAnyH_take (i := 7) (v := .agg (F.blk i).toArray) rfl (by kernel_rfl) (by kernel_rfl) (by kernel_rfl) (fun _ _ _ h => h) (yieldsIf_load_mid (by rfl) 81 (.tmp 22) rfl g' (i * 33) (by rfl) (F.blk i) _ (fun w hw => hw.2) Try.underlying81 rfl (by rw [blk_length]; exact Try.size81)) (by assumption) ?rest7
      simp only [Act.put, List.getElem_toArray, List.getElem_cons_zero, List.getElem_cons_succ, List.setIfInBounds_toArray, List.set_cons_zero, List.set_cons_succ]
      refine wpAnyH_take (i := 8) (v := ?v8) rfl (by kernel_rfl) (by kernel_rfl) (by kernel_rfl) (fun _ _ _ h => h) (Or.inl ⟨by rfl, ?hy8⟩) (by assumption) ?rest8
      case hy8 => intro w hSw; go_simp <;> with_reducible rfl
      simp only [Act.put, List.getElem_toArray, List.getElem_cons_zero, List.getElem_cons_succ, List.setIfInBounds_toArray, List.set_cons_zero, List.set_cons_succ]
      refine wpAnyH_done (by kernel_rfl) ?_ _
      go_wp2
      go_roundw
      case rel => exact ⟨i + 1, by omega, by go_num, (unhide HBL).drew⟩
      case measure => simp [intOf]; omega
    · obtain rfl : i = F.n := by omega
      clear hbl
      go_wp2
      go_ret
      exact ⟨rfl, unhide HBL⟩

end Go.Proofs.Yteehhbgjjamjiaa
