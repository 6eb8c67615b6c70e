/- Clone. -/
import Derived.Test.YtiijbklaapaheaaKB
import Derived.Deep.RegionWith
namespace Go.Proofs.Ytiijbklaapaheaa
open Go.RowKit
set_option maxRecDepth 100000

/-- A flash's blocks, cell by cell. -/
def Fl.cellAt (F : Fl) (t : Nat) : Value :=
  if t % 33 = 32 then .int .i64 (F.wear (t / 33)) else if t % 33 % 2 = 0 then .int .i64 (F.st (t / 33) (t % 33 / 2)) else .string (F.bs (t / 33) (t % 33 / 2))
def Fl.cellsL (F : Fl) : List Value := (List.range (F.n * 33)).map F.cellAt
theorem cellsL_length (F : Fl) : F.cellsL.length = F.n * 33 := by simp [Fl.cellsL]
theorem cellsL_at (F : Fl) (t : Nat) (h : t < F.n * 33) : F.cellsL[t]? = some (F.cellAt t) := by
  unfold Fl.cellsL
  rw [List.getElem?_map, List.getElem?_range h]
  rfl
theorem cellAt_st (F : Fl) (i j : Nat) (hj : j < 16) : F.cellAt (i * 33 + j * 2) = .int .i64 (F.st i j) := by
  have a : (i * 33 + j * 2) % 33 = j * 2 := by omega
  have b : (i * 33 + j * 2) / 33 = i := by omega
  unfold Fl.cellAt
  rw [a, b, if_neg (by omega), if_pos (by omega), show j * 2 / 2 = j by omega]
theorem cellAt_bs (F : Fl) (i j : Nat) (hj : j < 16) : F.cellAt (i * 33 + j * 2 + 1) = .string (F.bs i j) := by
  have a : (i * 33 + j * 2 + 1) % 33 = j * 2 + 1 := by omega
  have b : (i * 33 + j * 2 + 1) / 33 = i := by omega
  unfold Fl.cellAt
  rw [a, b, if_neg (by omega), if_neg (by omega), show (j * 2 + 1) / 2 = j by omega]
theorem cellAt_wear (F : Fl) (i : Nat) : F.cellAt (i * 33 + 32) = .int .i64 (F.wear i) := by
  have a : (i * 33 + 32) % 33 = 32 := by omega
  have b : (i * 33 + 32) / 33 = i := by omega
  unfold Fl.cellAt
  rw [a, b, if_pos rfl]
theorem IsFl.cellAt {w : World} {g h cap : Nat} {F : Fl} (H : IsFl w g h cap F) (t : Nat) (ht : t < F.n * 33) : w.cell? ⟨g, t, none⟩ = some (F.cellAt t) := by
  obtain ⟨i, r, rfl, hr⟩ : ∃ i r, t = i * 33 + r ∧ r < 33 := ⟨t / 33, t % 33, by omega, by omega⟩
  by_cases h32 : r = 32
  · subst h32
    rw [cellAt_wear]; exact H.wear i (by omega)
  · by_cases h2 : r % 2 = 0
    · obtain ⟨j, rfl⟩ : ∃ j, r = j * 2 := ⟨r / 2, by omega⟩
      rw [cellAt_st F i j (by omega)]; exact H.st i j (by omega) (by omega)
    · obtain ⟨j, rfl⟩ : ∃ j, r = j * 2 + 1 := ⟨r / 2, by omega⟩
      rw [← Nat.add_assoc, cellAt_bs F i j (by omega)]; exact H.bs i j (by omega) (by omega)
theorem cellsL_one (F : Fl) : ∀ u ∈ F.cellsL, u.oneCell' = true := by
  intro u hu
  simp only [Fl.cellsL, List.mem_map] at hu
  obtain ⟨t, _, rfl⟩ := hu
  unfold Fl.cellAt
  (repeat' split) <;> rfl

theorem own_nil33 (w : World) : (w.alloc (.cells #[] 109)).ownsRow w.heap.size 109 33 (.slice (some ⟨w.heap.size, 0, none⟩) 0 0) 0 [] :=
  ⟨rfl, .inr ⟨w.heap.size, 0, _, rfl, Nat.le_refl _, heap_alloc_new w _, Nat.le_refl _, by decide, by simp, by simp⟩⟩

set_option maxHeartbeats 800000 in
theorem sclone_any {g h cap : Nat} {F : Fl} {w : World} (H : IsFl w g h cap F) :
    Calls Try.prog 78 #[.slice (some ⟨g, 0, none⟩) F.n cap] w fun e w' => ∃ g' cap', e = .returned (.slice (some ⟨g', 0, none⟩) F.n cap') ∧ w'.ownsRow w.heap.size 109 33 (.slice (some ⟨g', 0, none⟩) F.n cap') F.n F.cellsL ∧ Below w.heap.size w w' := by
  obtain ⟨i0, hi, hz0, hz1, hz2⟩ := info_parts Try.info109
  have hE := fun (w : World) a n c => Lib.run_eql_slice_nil (P := Try.prog) w 80 109 a n c 0 0 Try.underlying80
  have hle := H.le
  have HH := hide H
  clear H
  go_enter Try.func78, Try.ntmps78
  go_wp2_with (at_builtin; refine wpList_append_own _ rfl _ _ 80 rfl w.heap.size 109 i0 (.agg zCells) 33 392 Try.underlying80 hi hz0 hz1 hz2 rfl (by decide) _ 0 [] rfl (own_nil33 w) ⟨g, 0, none⟩ F.n cap F.cellsL rfl (by rw [cellsL_length]) ?d0 (cellsL_one F) ?d1 ?d2 ?d3 ?_)
  case d0 =>
    intro t u hu
    have ht : t < F.n * 33 := by have := (List.getElem?_eq_some_iff.1 hu).1; rw [cellsL_length] at this; exact this
    rw [cellsL_at F t ht] at hu
    have hadd : (⟨g, 0, none⟩ : Addr).add t = ⟨g, t, none⟩ := by unfold Addr.add; split <;> simp_all
    rw [hadd, ((unhide HH).alloc _).cellAt t ht, hu]
  case d1 => unfold maxLen; omega
  case d2 => omega
  case d3 => simp
  intro x w1 ho hg _
  have ho : w1.ownsRow w.heap.size 109 33 x F.n F.cellsL := by simpa using ho
  have hb : Below w.heap.size w w1 := ((Below.refl _ _).alloc (Nat.le_refl _) _).grown hg (by simp) (by intro k hk; simp [Value.ownBlock] at hk; omega)
  have hpos := (unhide HH).pos
  obtain ⟨g', cap', rfl⟩ : ∃ g' cap', x = .slice (some ⟨g', 0, none⟩) F.n cap' := by
    rcases ho.2 with ⟨_, h0⟩ | ⟨g', cap', cur, hv, _⟩
    · omega
    · exact ⟨g', cap', hv⟩
  have HO := hide ho
  have HB := hide hb
  clear ho hb hg
  go_wp2
  go_ret
  exact ⟨g', cap', rfl, unhide HO, unhide HB⟩

set_option maxRecDepth 100000 in
set_option maxHeartbeats 800000 in
theorem fclone_any {g h cap : Nat} {F : Fl} {w : World} (H : IsFl w g h cap F) :
    Calls Try.prog 47 #[P0 h] w fun e w' => ∃ g' h' cap', e = .returned (P0 h') ∧ IsFl w' g' h' cap' F ∧ Below w.heap.size w w' ∧ w.heap.size ≤ g' ∧ w.heap.size ≤ h' := by
  have HM := hide (made_yes H)
  have h1 := H.ptr; have h2 := H.cnt; have h3 := H.keep; have h4 := H.down
  have hhl := H.hlt
  have HC : Hid (∀ w'', Below w.heap.size w w'' → Calls Try.prog 78 #[.slice (some ⟨g, 0, none⟩) F.n cap] w'' fun e w' => ∃ g' cap', e = .returned (.slice (some ⟨g', 0, none⟩) F.n cap') ∧ w'.ownsRow w''.heap.size 109 33 (.slice (some ⟨g', 0, none⟩) F.n cap') F.n F.cellsL ∧ Below w''.heap.size w'' w') := fun w'' hb => sclone_any (H.below hb)
  have HCells : Hid (∀ w'', Below w.heap.size w w'' → w''.cell? ⟨h, 1, none⟩ = some (.int .i64 F.cnt) ∧ w''.cell? ⟨h, 2, none⟩ = some (.int .i64 F.keep) ∧ w''.cell? ⟨h, 3, none⟩ = some (.bool F.down)) := fun w'' hb => ⟨(H.below hb).cnt, (H.below hb).keep, (H.below hb).down⟩
  have HP := hide (And.intro H.pos H.le)
  clear H
  go_enter Try.func47, Try.ntmps47
  go_wp2_with (go_at_call 73; refine (unhide HM).mono ?_; rintro e w' ⟨rfl, rfl⟩)
  go_region_with (go_at_call 78; refine (unhide HC _ (Below.refl _ _).drew).mono ?_; rintro e w1 ⟨g', cap', rfl, ho1, hb1⟩; obtain ⟨q1, q2, q3⟩ := unhide HCells w1 ((Below.refl _ _).drew.trans hb1))
  all_goals
    have HI := hide (isFl_of_own (F := F) (unhide HP).1 (unhide HP).2 ho1
      (fun i j hi hj => (cellsL_at F _ (by omega)).trans (congrArg some (cellAt_st F i j hj)))
      (fun i j hi hj => (cellsL_at F _ (by omega)).trans (congrArg some (cellAt_bs F i j hj)))
      (fun i hi => (cellsL_at F _ (by omega)).trans (congrArg some (cellAt_wear F i))))
    have HB : Hid (Below w.heap.size w w1) := (Below.refl _ _).drew.trans hb1
    clear hb1 ho1 HM HC HCells h1 h2 h3 h4 q1 q2 q3
    go_wp2
    go_ret
    exact ⟨g', _, cap', rfl, (unhide HI).1, (unhide HB).alloc (unhide HB).size _, (unhide HI).2, (unhide HB).size⟩

set_option maxHeartbeats 400000 in
theorem fclone_no {v : Value} {w : World} (H : IsNo w v) :
    Calls Try.prog 47 #[v] w fun e w' => e = .returned (.pointer none) ∧ w = w' := by
  have HM := hide (made_no H)
  clear H
  go_enter Try.func47, Try.ntmps47
  go_wp2_with (go_at_call 73; refine (unhide HM).mono ?_; rintro e w' ⟨rfl, rfl⟩)
  go_ret
  exact ⟨rfl, rfl⟩

end Go.Proofs.Ytiijbklaapaheaa
