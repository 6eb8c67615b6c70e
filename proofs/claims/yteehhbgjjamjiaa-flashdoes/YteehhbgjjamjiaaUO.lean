/- step: step_prog. -/
import Derived.Test.YteehhbgjjamjiaaUL
import Derived.Deep.RegionHeld3
namespace Go.Proofs.Yteehhbgjjamjiaa
open Go.RowKit
variable {w : World} {B g h cap hr gp gw cp cw : Nat} {S : Nat → Prop} {F : Fl}

set_option maxRecDepth 100000 in
set_option maxHeartbeats 3200000 in
theorem step_prog (J : Jt w B g h cap hr gp gw cp cw S F) (_hB : B ≤ w.heap.size) (i j a x : Int) (zs : List Int) (ao : Option Addr) (c : Nat) (hz : Sees w .u8 (.slice ao zs.length c) zs) (hby : Byt zs) (hzB : ∀ p, ao = some p → p.block < B ∨ zs = []) :
    Calls Try.prog 10 #[P0 h, P0 hr, .agg #[.int .i64 0, .int .i64 i, .int .i64 j, .int .i64 a, .int .i64 x, .slice ao zs.length c]] w (Stepped B g h hr gp gw cp cw w) := by
  have hb0 : Below w.heap.size w ((w.alloc (.cells #[.int .i64 0, .int .i64 i, .int .i64 j, .int .i64 a, .int .i64 x, .slice ao zs.length c] 30)).drew) := ((Below.refl _ _).alloc (Nat.le_refl _) _).drew
  have J1 := J.below hb0
  have HJ := hide J1
  have HB0 := hide hb0
  have HG : Hid (g < w.heap.size ∧ h < w.heap.size) := ⟨J.fl.glt, J.fl.hlt⟩
  have HG2 : Hid (hr < w.heap.size ∧ gp < w.heap.size ∧ gw < w.heap.size) := by obtain ⟨_, _, _, _, HR⟩ := J.rf; exact ⟨HR.rlt.1, HR.rlt.2.1, HR.rlt.2.2.1⟩
  have HN : Hid (0 ≤ F.cnt ∧ F.cnt ≤ 9223372036854775807) := by obtain ⟨_, _, _, _, HR⟩ := J.rf; exact ⟨HR.cnt0, HR.cnt1⟩
  have HCell : Hid (∀ w' : World, w'.heap[w.heap.size]? = (w.alloc (.cells #[.int .i64 0, .int .i64 i, .int .i64 j, .int .i64 a, .int .i64 x, .slice ao zs.length c] 30)).heap[w.heap.size]? → w'.cell? ⟨w.heap.size, 1, none⟩ = some (.int .i64 i) ∧ w'.cell? ⟨w.heap.size, 2, none⟩ = some (.int .i64 j) ∧ w'.cell? ⟨w.heap.size, 3, none⟩ = some (.int .i64 a) ∧ w'.cell? ⟨w.heap.size, 4, none⟩ = some (.int .i64 x) ∧ w'.cell? ⟨w.heap.size, 5, none⟩ = some (.slice ao zs.length c)) := fun w' hb => by
    refine ⟨?_, ?_, ?_, ?_, ?_⟩
    · rw [World.cell?_of_block (a := ⟨w.heap.size, 1, none⟩) hb, World.cell?_alloc_new]; rfl
    · rw [World.cell?_of_block (a := ⟨w.heap.size, 2, none⟩) hb, World.cell?_alloc_new]; rfl
    · rw [World.cell?_of_block (a := ⟨w.heap.size, 3, none⟩) hb, World.cell?_alloc_new]; rfl
    · rw [World.cell?_of_block (a := ⟨w.heap.size, 4, none⟩) hb, World.cell?_alloc_new]; rfl
    · rw [World.cell?_of_block (a := ⟨w.heap.size, 5, none⟩) hb, World.cell?_alloc_new]; rfl
  have hsz : ((w.alloc (.cells #[.int .i64 0, .int .i64 i, .int .i64 j, .int .i64 a, .int .i64 x, .slice ao zs.length c] 30)).drew).heap.size = w.heap.size + 1 := by show (w.alloc _).heap.size = _; simp
  have HZ := hide hsz
  have hz1 := hz.below hb0
  have HZs : Hid (∀ w1, Jt ((w.alloc (.cells #[.int .i64 0, .int .i64 i, .int .i64 j, .int .i64 a, .int .i64 x, .slice ao zs.length c] 30)).drew) B g h cap hr gp gw cp cw S F → Upd (Two g h) ((w.alloc (.cells #[.int .i64 0, .int .i64 i, .int .i64 j, .int .i64 a, .int .i64 x, .slice ao zs.length c] 30)).drew).heap.size ((w.alloc (.cells #[.int .i64 0, .int .i64 i, .int .i64 j, .int .i64 a, .int .i64 x, .slice ao zs.length c] 30)).drew) w1 → Sees w1 .u8 (.slice ao zs.length c) zs) := fun w1 J1 hU => by
    obtain ⟨ao', cap', e', hl, hn, ha⟩ := hz1
    refine ⟨ao', cap', e', hl, hn, fun p ep t ht => ?_⟩
    have hc := ha p ep t ht
    have hb := World.block_lt_of_cell? _ _ hc
    cases e'
    subst ep
    have hpb : (p.add t).block = p.block := by (unfold Addr.add; split <;> simp_all)
    have hp : p.block < B := (hzB p rfl).resolve_right (fun e => by rw [e] at ht; exact absurd ht (Nat.not_lt_zero _))
    rw [hU.cell (p := p.add t) hb (by rw [hpb]; have := J1.bg; have := J1.bh; rintro (e | e) <;> omega)]
    exact hc
  have HC := hide (prog_all J1.fl (unhide HN).1 (unhide HN).2 i j _ zs hz1 hby)
  clear J1 J hb0 hsz
  go_enter Try.func10, Try.ntmps10
  go_wp2_with fail
  refine wp_region_held_drew (S := fun w' => w'.cell? ⟨w.heap.size, 1, none⟩ = some (.int .i64 i) ∧ w'.cell? ⟨w.heap.size, 2, none⟩ = some (.int .i64 j) ∧ w'.cell? ⟨w.heap.size, 3, none⟩ = some (.int .i64 a) ∧ w'.cell? ⟨w.heap.size, 4, none⟩ = some (.int .i64 x) ∧ w'.cell? ⟨w.heap.size, 5, none⟩ = some (.slice ao zs.length c)) (by kernel_rfl) (unhide HCell _ rfl) (fun hHeld => ?_)
  refine wpAnyH_take (i := 0) (v := ?v0) rfl (by kernel_rfl) (by kernel_rfl) (by kernel_rfl) (fun _ _ _ h => h) (Or.inl ⟨by rfl, ?hy0⟩) (by assumption) ?rest0
  case hy0 => intro w hSw; obtain ⟨s1, s2, s3, s4, s5⟩ := hSw; go_simp <;> with_reducible rfl
  simp only [Act.put, List.getElem_toArray, List.getElem_cons_zero, List.setIfInBounds_toArray, List.set_cons_zero, List.set_cons_succ]
  refine wpAnyH_take (i := 1) (v := ?v1) rfl (by kernel_rfl) (by kernel_rfl) (by kernel_rfl) (fun _ _ _ h => h) (Or.inl ⟨by rfl, ?hy1⟩) (by assumption) ?rest1
  case hy1 => intro w hSw; obtain ⟨s1, s2, s3, s4, s5⟩ := hSw; go_simp <;> with_reducible rfl
  simp only [Act.put, List.getElem_toArray, List.getElem_cons_zero, List.getElem_cons_succ, List.setIfInBounds_toArray, List.set_cons_zero, List.set_cons_succ]
  refine wpAnyH_take (i := 2) (v := ?v2) rfl (by kernel_rfl) (by kernel_rfl) (by kernel_rfl) (fun _ _ _ h => h) (Or.inl ⟨by rfl, ?hy2⟩) (by assumption) ?rest2
  case hy2 => intro w hSw; obtain ⟨s1, s2, s3, s4, s5⟩ := hSw; go_simp <;> with_reducible rfl
  simp only [Act.put, List.getElem_toArray, List.getElem_cons_zero, List.getElem_cons_succ, List.setIfInBounds_toArray, List.set_cons_zero, List.set_cons_succ]
  refine wpAnyH_take (i := 3) (v := .int .i64 i) rfl (by kernel_rfl) (by kernel_rfl) (by kernel_rfl) (fun _ _ _ h => h) (Or.inl ⟨by rfl, ?hy3⟩) (by assumption) ?rest3
  case hy3 => intro w hSw; obtain ⟨s1, s2, s3, s4, s5⟩ := hSw; go_simp <;> with_reducible rfl
  simp only [Act.put, List.getElem_toArray, List.getElem_cons_zero, List.getElem_cons_succ, List.setIfInBounds_toArray, List.set_cons_zero, List.set_cons_succ]
  refine wpAnyH_take (i := 4) (v := ?v4) rfl (by kernel_rfl) (by kernel_rfl) (by kernel_rfl) (fun _ _ _ h => h) (Or.inl ⟨by rfl, ?hy4⟩) (by assumption) ?rest4
  case hy4 => intro w hSw; obtain ⟨s1, s2, s3, s4, s5⟩ := hSw; go_simp <;> with_reducible rfl
  simp only [Act.put, List.getElem_toArray, List.getElem_cons_zero, List.getElem_cons_succ, List.setIfInBounds_toArray, List.set_cons_zero, List.set_cons_succ]
  refine wpAnyH_take (i := 5) (v := .int .i64 j) rfl (by kernel_rfl) (by kernel_rfl) (by kernel_rfl) (fun _ _ _ h => h) (Or.inl ⟨by rfl, ?hy5⟩) (by assumption) ?rest5
  case hy5 => intro w hSw; obtain ⟨s1, s2, s3, s4, s5⟩ := hSw; go_simp <;> with_reducible rfl
  simp only [Act.put, List.getElem_toArray, List.getElem_cons_zero, List.getElem_cons_succ, List.setIfInBounds_toArray, List.set_cons_zero, List.set_cons_succ]
  refine wpAnyH_take (i := 6) (v := ?v6) rfl (by kernel_rfl) (by kernel_rfl) (by kernel_rfl) (fun _ _ _ h => h) (Or.inl ⟨by rfl, ?hy6⟩) (by assumption) ?rest6
  case hy6 => intro w hSw; obtain ⟨s1, s2, s3, s4, s5⟩ := hSw; go_simp <;> with_reducible rfl
  simp only [Act.put, List.getElem_toArray, List.getElem_cons_zero, List.getElem_cons_succ, List.setIfInBounds_toArray, List.set_cons_zero, List.set_cons_succ]
  refine wpAnyH_take (i := 7) (v := .slice ao zs.length c) rfl (by kernel_rfl) (by kernel_rfl) (by kernel_rfl) (fun _ _ _ h => h) (Or.inl ⟨by rfl, ?hy7⟩) (by assumption) ?rest7
  case hy7 => intro w hSw; obtain ⟨s1, s2, s3, s4, s5⟩ := hSw; go_simp <;> with_reducible rfl
  simp only [Act.put, List.getElem_toArray, List.getElem_cons_zero, List.getElem_cons_succ, List.setIfInBounds_toArray, List.set_cons_zero, List.set_cons_succ]
  refine wpAnyH_take (i := 9) (v := ?v9) rfl (by kernel_rfl) (by kernel_rfl) (by kernel_rfl) (fun _ _ _ h => h) (Or.inl ⟨by rfl, ?hy9⟩) (by assumption) ?rest9
  case hy9 => intro w hSw; obtain ⟨s1, s2, s3, s4, s5⟩ := hSw; go_simp <;> with_reducible rfl
  simp only [Act.put, List.getElem_toArray, List.getElem_cons_zero, List.getElem_cons_succ, List.setIfInBounds_toArray, List.set_cons_zero, List.set_cons_succ]
  refine wpAnyH_take (i := 10) (v := ?v10) rfl (by kernel_rfl) (by kernel_rfl) (by kernel_rfl) (fun _ _ _ h => h) (Or.inl ⟨by rfl, ?hy10⟩) (by assumption) ?rest10
  case hy10 => intro w hSw; obtain ⟨s1, s2, s3, s4, s5⟩ := hSw; go_simp <;> with_reducible rfl
  simp only [Act.put, List.getElem_toArray, List.getElem_cons_zero, List.getElem_cons_succ, List.setIfInBounds_toArray, List.set_cons_zero, List.set_cons_succ]
  refine wpAnyH_take (i := 11) (v := .int .i64 i) rfl (by kernel_rfl) (by kernel_rfl) (by kernel_rfl) (fun _ _ _ h => h) (Or.inl ⟨by rfl, ?hy11⟩) (by assumption) ?rest11
  case hy11 => intro w hSw; obtain ⟨s1, s2, s3, s4, s5⟩ := hSw; go_simp <;> with_reducible rfl
  simp only [Act.put, List.getElem_toArray, List.getElem_cons_zero, List.getElem_cons_succ, List.setIfInBounds_toArray, List.set_cons_zero, List.set_cons_succ]
  refine wpAnyH_take (i := 12) (v := ?v12) rfl (by kernel_rfl) (by kernel_rfl) (by kernel_rfl) (fun _ _ _ h => h) (Or.inl ⟨by rfl, ?hy12⟩) (by assumption) ?rest12
  case hy12 => intro w hSw; obtain ⟨s1, s2, s3, s4, s5⟩ := hSw; go_simp <;> with_reducible rfl
  simp only [Act.put, List.getElem_toArray, List.getElem_cons_zero, List.getElem_cons_succ, List.setIfInBounds_toArray, List.set_cons_zero, List.set_cons_succ]
  refine wpAnyH_take (i := 13) (v := .int .i64 j) rfl (by kernel_rfl) (by kernel_rfl) (by kernel_rfl) (fun _ _ _ h => h) (Or.inl ⟨by rfl, ?hy13⟩) (by assumption) ?rest13
  case hy13 => intro w hSw; obtain ⟨s1, s2, s3, s4, s5⟩ := hSw; go_simp <;> with_reducible rfl
  simp only [Act.put, List.getElem_toArray, List.getElem_cons_zero, List.getElem_cons_succ, List.setIfInBounds_toArray, List.set_cons_zero, List.set_cons_succ]
  refine wpAnyH_take (i := 14) (v := ?v14) rfl (by kernel_rfl) (by kernel_rfl) (by kernel_rfl) (fun _ _ _ h => h) (Or.inl ⟨by rfl, ?hy14⟩) (by assumption) ?rest14
  case hy14 => intro w hSw; obtain ⟨s1, s2, s3, s4, s5⟩ := hSw; go_simp <;> with_reducible rfl
  simp only [Act.put, List.getElem_toArray, List.getElem_cons_zero, List.getElem_cons_succ, List.setIfInBounds_toArray, List.set_cons_zero, List.set_cons_succ]
  refine wpAnyH_take (i := 15) (v := .slice ao zs.length c) rfl (by kernel_rfl) (by kernel_rfl) (by kernel_rfl) (fun _ _ _ h => h) (Or.inl ⟨by rfl, ?hy15⟩) (by assumption) ?rest15
  case hy15 => intro w hSw; obtain ⟨s1, s2, s3, s4, s5⟩ := hSw; go_simp <;> with_reducible rfl
  simp only [Act.put, List.getElem_toArray, List.getElem_cons_zero, List.getElem_cons_succ, List.setIfInBounds_toArray, List.set_cons_zero, List.set_cons_succ]
  refine wpAnyH_ready (rs := [8]) (by kernel_rfl) (by simp) ?_
  refine AllReadyH.cons rfl (fun K hK => ?_) AllReadyH.nil
  go_simp
  refine (unhide HC).mono ?_
  rintro e w1 ⟨rfl, hI, hU⟩
  have hg1 := (unhide HG).1; have hg2 := (unhide HG).2; have hz0 := unhide HZ
  have hbx := (hU.block w.heap.size (by omega) (by rintro (e | e) <;> omega))
  refine hK _ _ (unhide HCell w1 hbx) ?_
  obtain ⟨pb, cb, bv, kp, hR, hin, hb1⟩ := (unhide HJ).half hU
  have hs1 := hU.size
  have HCr := hide (rprog_all hR hin i j _ zs (unhide HZs w1 (unhide HJ) hU) (fun p l q e hne => by cases e; rcases hzB p rfl with hp | hp; exact (unhide HJ).apart _ ((unhide HJ).low _ hp); exact absurd hp hne) hby)
  have HI := hide hI; have HU := hide hU; have HB1 := hide hb1; have HBX := hide hbx
  clear hHeld hK HC hI hb1 hR hin hbx hU
  intro hHeld
  refine wpAnyH_ready (rs := [16]) (by kernel_rfl) (by simp) ?_
  refine AllReadyH.cons rfl (fun K hK => ?_) AllReadyH.nil
  go_simp
  refine (unhide HCr).mono ?_
  rintro e w2 ⟨rfl, hR2, hU2⟩
  obtain ⟨r1, r2, r3⟩ := unhide HG2
  have hbx2 := (hU2.block w.heap.size (by omega) (by rintro (e | e | e) <;> omega)).trans (unhide HBX)
  refine hK _ _ (unhide HCell w2 hbx2) ?_
  obtain ⟨hJ2, hb2⟩ := (unhide HJ).whole (unhide HU).size (unhide HI) hR2 hU2
  have HE : Hid (Stepped B g h hr gp gw cp cw w (.returned (.tuple #[P0 h, .bool true])) w2) := ⟨g, h, cap, S, _, rfl, hJ2, stepUpd (unhide HB0) (unhide HU) hU2⟩
  clear hHeld hK hJ2 hb2 hR2 hU2 hbx2 HCr
  intro hHeld
  refine wpAnyH_take (i := 17) (v := .bool true) rfl (by kernel_rfl) (by kernel_rfl) (by kernel_rfl) (fun _ _ _ h => h) (Or.inl ⟨by rfl, ?hy17⟩) (by assumption) ?rest17
  case hy17 => intro w hSw; obtain ⟨s1, s2, s3, s4, s5⟩ := hSw; go_simp <;> with_reducible rfl
  simp only [Act.put, List.getElem_toArray, List.getElem_cons_zero, List.getElem_cons_succ, List.setIfInBounds_toArray, List.set_cons_zero, List.set_cons_succ]
  refine wpAnyH_take (i := 18) (v := ?v18) rfl (by kernel_rfl) (by kernel_rfl) (by kernel_rfl) (fun _ _ _ h => h) (Or.inl ⟨by rfl, ?hy18⟩) (by assumption) ?rest18
  case hy18 => intro w hSw; obtain ⟨s1, s2, s3, s4, s5⟩ := hSw; go_simp <;> with_reducible rfl
  simp only [Act.put, List.getElem_toArray, List.getElem_cons_zero, List.getElem_cons_succ, List.setIfInBounds_toArray, List.set_cons_zero, List.set_cons_succ]
  refine wpAnyH_take (i := 19) (v := ?v19) rfl (by kernel_rfl) (by kernel_rfl) (by kernel_rfl) (fun _ _ _ h => h) (Or.inl ⟨by rfl, ?hy19⟩) (by assumption) ?rest19
  case hy19 => intro w hSw; obtain ⟨s1, s2, s3, s4, s5⟩ := hSw; go_simp <;> with_reducible rfl
  simp only [Act.put, List.getElem_toArray, List.getElem_cons_zero, List.getElem_cons_succ, List.setIfInBounds_toArray, List.set_cons_zero, List.set_cons_succ]
  refine wpAnyH_done (by kernel_rfl) ?_ _
  go_wp2
  go_ret2
  exact unhide HE
end Go.Proofs.Yteehhbgjjamjiaa
