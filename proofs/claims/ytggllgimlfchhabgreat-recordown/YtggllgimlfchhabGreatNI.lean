/- Record: cloneList of termed entries. -/
import Derived.Test.YtggllgimlfchhabGreatNH
namespace Go.Proofs.YtggllgimlfchhabGreat
open Go.RowKit Go.Deep
set_option maxRecDepth 100000

/-- No list of parts is too long to be cloned. -/
def SmallTm (t : TmD) : Prop := t.ent.txns.length ≤ 1256584717421 ∧ ∀ x ∈ t.ent.txns, SmallT x

set_option maxHeartbeats 1600000 in
theorem cloneListM_any (v : Value) (l : List TmD) (w : World) (hs : SeesTms w v l) (hm : l.length ≤ 2513169434843) (hsm : ∀ t ∈ l, SmallTm t) :
    Calls Tryz.prog 46 #[v, .func (.func 47) #[] #[]] w fun e w' => ∃ x, e = .returned x ∧ OwnTms w.heap.size w' x l ∧ Below w.heap.size w w' := by
  have HC := hide (cloneTms_any v l w hs hm)
  have HSM := hide hsm
  obtain ⟨ao, cap, _, _, rfl, _⟩ := hs
  clear hsm
  go_enter Tryz.func46, Tryz.ntmps46
  go_wp2_with fail
  refine (unhide HC).mono ?_
  rintro e w2 ⟨x, rfl, ⟨vs, hvs, hrow, hse⟩, hb2⟩
  rcases hrow.2 with ⟨rfl, hl0⟩ | ⟨g, cap2, cur, rfl, _⟩
  · obtain rfl : l = [] := List.length_eq_zero_iff.1 hl0
    have HB := hide hb2
    clear hrow hse hb2 hvs HC
    go_wp2
    go_loopw [12] (fun c wr => c = .int .i64 0 ∧ wr = w2) (fun _ _ => 0)
    case atStart => exact ⟨rfl, rfl⟩
    case round =>
      obtain ⟨rfl, rfl⟩ := hrel
      go_wp2
      go_ret
      exact ⟨_, rfl, OwnTms.nil _ _, unhide HB⟩
  · have HJ : Hid (CM w w2 g l.length cap2 0 vs l) := ⟨hvs, rfl, hrow, fun j p hj => absurd hj (by omega), fun j p _ hp => hse p (List.mem_of_getElem? hp), hb2⟩
    obtain ⟨n, hn⟩ : ∃ n, l.length = n := ⟨_, rfl⟩
    rw [hn] at HJ hm ⊢
    clear hrow hse hb2 hvs HC
    go_wp2
    go_loopw [12] (fun c wr => ∃ (t : Nat) (us : List TM2), t ≤ n ∧ c = .int .i64 t ∧ CM w wr g n cap2 t us l) (fun c _ => n - (intOf c).toNat)
    case atStart => exact ⟨0, vs, by omega, rfl, unhide HJ⟩
    case round =>
      obtain ⟨t, us, ht, rfl, hJ⟩ := hrel
      by_cases hlt : t < n
      · have hul : us.length = n := by rw [← hJ.len, ← hJ.map]; simp
        obtain ⟨p, hp⟩ : ∃ p, us[t]? = some p := ⟨us[t]'(by omega), by simp [hul, hlt]⟩
        have hpl : p.1 ∈ l := by rw [← hJ.map]; exact List.mem_map.2 ⟨p, List.mem_of_getElem? hp, rfl⟩
        have hps := unhide HSM p.1 hpl
        have hpt := hJ.rest t p (Nat.le_refl _) hp
        obtain ⟨⟨s0, s1, s2, s3, lt⟩, v1⟩ := p
        simp only at hpt hps
        obtain ⟨k1, c1, _, _, e1, _⟩ := id hpt
        subst e1
        have d0 := row_cell hJ.row (t * 5) (.int .i64 s0) (tmCells_at us t _ hp 0 (by omega))
        have d1 := row_cell hJ.row (t * 5 + 1) (.int .i64 s1) (tmCells_at us t _ hp 1 (by omega))
        have d2 := row_cell hJ.row (t * 5 + 2) (.int .i64 s2) (tmCells_at us t _ hp 2 (by omega))
        have d3 := row_cell hJ.row (t * 5 + 3) (.int .i64 s3) (tmCells_at us t _ hp 3 (by omega))
        have d4 := row_cell hJ.row (t * 5 + 4) _ (tmCells_at us t _ hp 4 (by omega))
        simp only at d4
        obtain ⟨m1, f1⟩ : ∃ m, lt.length = m := ⟨_, rfl⟩
        rw [f1] at d4
        have hal : Below wr.heap.size wr (wr.alloc (.cells #[.int .i64 s0, .int .i64 s1, .int .i64 s2, .int .i64 s3, .slice k1 m1 c1] 52)) := (Below.refl _ _).alloc (Nat.le_refl _) _
        have hJ1 := hJ.below' hal
        have HM := hide (cloneTermed_any _ ⟨s0, s1, s2, s3, lt⟩ (wr.alloc (.cells #[.int .i64 s0, .int .i64 s1, .int .i64 s2, .int .i64 s3, .slice k1 m1 c1] 52)) ⟨_, rfl, hpt.below hJ1.below⟩ hps.1 hps.2)
        simp only [f1] at HM
        have HJ1 := hide hJ1
        have HP := hide hp
        clear hpt hps hpl hul hJ hJ1 hal hp f1
        go_wp2_with fail
        refine (unhide HM).mono ?_
        rintro e w3 ⟨cs', rfl, ⟨tv', rfl, ho3⟩, hb3⟩
        obtain ⟨j1, z1, rfl⟩ := ho3.shape
        have hJ3 := (unhide HJ1).below' hb3
        simp only at ho3 ⊢
        have hp3 := unhide HP
        have d0' := row_cell hJ3.row (t * 5) (.int .i64 s0) (tmCells_at us t _ hp3 0 (by omega))
        have d1' := row_cell hJ3.row (t * 5 + 1) (.int .i64 s1) (tmCells_at us t _ hp3 1 (by omega))
        have d2' := row_cell hJ3.row (t * 5 + 2) (.int .i64 s2) (tmCells_at us t _ hp3 2 (by omega))
        have d3' := row_cell hJ3.row (t * 5 + 3) (.int .i64 s3) (tmCells_at us t _ hp3 3 (by omega))
        have d4' := row_cell hJ3.row (t * 5 + 4) _ (tmCells_at us t _ hp3 4 (by omega))
        simp only at d4'
        obtain ⟨_, cur3, hh3⟩ := row_heap hJ3.row
        have fz : ∀ o, w3.frozen? ⟨g, o, none⟩ = false := fun o => frozen_of_heap hh3
        have hst := hJ3.step _ (⟨s0, s1, s2, s3, lt⟩, .slice j1 lt.length z1) hp3 rfl (ho3.mono (by have := (unhide HJ1).below.size; exact this))
        simp only at hst
        have HST := hide hst
        clear ho3 hb3 hJ3 hst hh3 HM hp3
        go_wp2
        go_roundw
        case rel => first | exact ⟨t + 1, _, by omega, by go_num, unhide HST⟩ | ((repeat apply Exists.intro); exact ⟨⟨t + 1, _, by omega, by go_num, unhide HST⟩, rfl⟩)
        case measure => simp [intOf]; omega
      · obtain rfl : t = n := by omega
        have HF : Hid (OwnTms w.heap.size wr (.slice (some ⟨g, 0, none⟩) t cap2) l ∧ Below w.heap.size w wr) := ⟨hJ.end, hJ.below⟩
        clear hJ
        go_wp2
        go_ret
        exact ⟨_, rfl, unhide HF⟩
end Go.Proofs.YtggllgimlfchhabGreat
