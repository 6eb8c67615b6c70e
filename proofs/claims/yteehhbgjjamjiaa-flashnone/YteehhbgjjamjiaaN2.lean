/- A flash that no call made: its other calls; FlashNone's walk. -/
import Derived.Test.YteehhbgjjamjiaaN1
import Derived.Test.YteehhbgjjamjiaaM9
import Derived.Test.YteehhbgjjamjiaaOps
namespace Go.Proofs.Yteehhbgjjamjiaa
open Go.RowKit

theorem IsNo.below {w w' : World} {v : Value} (h : IsNo w v) (hb : Below w.heap.size w w') : IsNo w' v := by
  rcases h with rfl | ⟨k, rfl, hc⟩
  · exact Or.inl rfl
  · exact Or.inr ⟨k, rfl, (hb.cell (p := ⟨k, 0, none⟩) (World.block_lt_of_cell? w _ hc)).trans hc⟩

set_option maxHeartbeats 400000 in
theorem spoil_err {v : Value} {i j a wth er : Int} {w : World} (he : er ≠ 0) (HF : Calls Try.prog 46 #[v, .int .i64 i, .int .i64 j] w fun e w' => e = .returned (.tuple #[.pointer none, .int .i64 er]) ∧ w = w') :
    Calls Try.prog 31 #[v, .int .i64 i, .int .i64 j, .int .i64 a, .int .u8 wth] w fun e w' => e = .returned (.int .i64 er) ∧ w = w' := by
  have HF := hide HF
  go_enter Try.func31, Try.ntmps31
  go_wp2_with (first
    | (go_at_call 46; refine (unhide HF).mono ?_; rintro e w' ⟨rfl, rfl⟩))
  go_ret
  exact ⟨rfl, rfl⟩

set_option maxHeartbeats 400000 in
theorem used_no {v : Value} {w : World} (H : IsNo w v) (i : Int) :
    Calls Try.prog 14 #[v, .int .i64 i] w fun e w' => e = .returned (.int .i64 0) ∧ w = w' := by
  have HS := hide (has_no H i)
  clear H
  go_enter Try.func14, Try.ntmps14
  go_wp2_with (go_at_call 42; refine (unhide HS).mono ?_; rintro e w' ⟨rfl, rfl⟩)
  go_ret
  exact ⟨rfl, rfl⟩

set_option maxHeartbeats 400000 in
theorem same_no {v u : Value} {w : World} (H : IsNo w v) :
    Calls Try.prog 32 #[v, u] w fun e w' => e = .returned (.bool false) ∧ w = w' := by
  have HM := hide (made_no H)
  clear H
  go_enter Try.func32, Try.ntmps32
  go_wp2_with (go_at_call 41; refine (unhide HM).mono ?_; rintro e w' ⟨rfl, rfl⟩)
  go_ret
  exact ⟨rfl, rfl⟩

set_option maxHeartbeats 400000 in
theorem all_no {v : Value} {w : World} (H : IsNo w v) :
    Calls Try.prog 18 #[v] w fun e w' => e = .returned (.func (.func 45) #[] #[.pointer (some ⟨w.heap.size, 0, none⟩)]) ∧ w.alloc (.cells #[.slice none 0 0] 88) = w' := by
  have HM := hide (made_no (H.below ((Below.refl _ _).alloc (Nat.le_refl _) (.cells #[.slice none 0 0] 88))))
  clear H
  go_enter Try.func18, Try.ntmps18
  go_wp2_with (go_at_call 41; refine (unhide HM).mono ?_; rintro e w' ⟨rfl, rfl⟩)
  go_ret
  exact ⟨rfl, rfl⟩

theorem told_nil (w : World) : Calls Try.prog 17 #[.func (.func 45) #[] #[.pointer (some ⟨w.heap.size, 0, none⟩)], .slice none 0 0] (w.alloc (.cells #[.slice none 0 0] 88)) fun e w' => e = .returned (.bool true) ∧ Below w.heap.size w w' := by
  refine (told_any w.heap.size 0 (fun _ => 0) (fun _ => 0) (.slice none 0 0) none 0 0 0 _ (by omega) (World.cell?_alloc_mark w #[.slice none 0 0] 88 (0, 0) 0) (Or.inl ⟨rfl, rfl⟩) (Nat.le_refl _) (fun h => by omega) (fun j h => by omega) (fun j h => by omega)).mono ?_
  rintro e w' ⟨rfl, hb⟩
  exact ⟨rfl, ((Below.refl _ _).alloc (Nat.le_refl _) _).trans (hb.mono (by simp))⟩

theorem box6' {w : World} {x0 x1 x2 x3 x4 x5 : Value} {t : TypeId} (w1 : World) (hb : Below (w.heap.size + 1) (w.alloc (.cells #[x0, x1, x2, x3, x4, x5] t)) w1) :
    w1.cell? ⟨w.heap.size, 0, none⟩ = some x0 ∧ w1.cell? ⟨w.heap.size, 1, none⟩ = some x1 ∧ w1.cell? ⟨w.heap.size, 2, none⟩ = some x2 ∧ w1.cell? ⟨w.heap.size, 3, none⟩ = some x3 ∧ w1.cell? ⟨w.heap.size, 4, none⟩ = some x4 ∧ w1.cell? ⟨w.heap.size, 5, none⟩ = some x5 := by
  have c : ∀ k, w1.cell? ⟨w.heap.size, k, none⟩ = (#[x0, x1, x2, x3, x4, x5] : Array Value)[k]? := fun k => (hb.cell (p := ⟨w.heap.size, k, none⟩) (Nat.lt_succ_self _)).trans (World.cell?_alloc_mark w _ t (0, 0) k)
  exact ⟨c 0, c 1, c 2, c 3, c 4, c 5⟩

set_option maxRecDepth 100000 in
set_option maxHeartbeats 3200000 in
theorem flashNone_walk (o : OpV) (w : World) (ho : OpOk w o) :
    Calls Try.prog 7 #[o.agg] w fun e w' => e = .returned (.bool true) ∧ Below w.heap.size w w' := by
  obtain ⟨act, blk, pag, at_, kep, bv, zs⟩ := o
  obtain ⟨hj4, hj5, hj6, hj7, hkep, hbs, hby⟩ := ho
  simp only at hbs
  clear hj4 hj5 hj6 hj7 hkep hby
  obtain ⟨aob, cpb, rfl, hj1⟩ := hbs
  clear hj1
  show Calls Try.prog 7 #[.agg #[.int .i64 act, .int .i64 blk, .int .i64 pag, .int .i64 at_, .int .i64 kep, .slice aob zs.length cpb]] w _
  go_enter Try.func7, Try.ntmps7
  go_wp2_with fail
  obtain ⟨wb, hwb⟩ : ∃ wb, w.alloc (.cells #[.int .i64 act, .int .i64 blk, .int .i64 pag, .int .i64 at_, .int .i64 kep, .slice aob zs.length cpb] 30) = wb := ⟨_, rfl⟩
  rw [hwb]
  refine (begun_any wb).mono ?_
  rintro e w2 ⟨rfl, hb2⟩
  go_wp2
  obtain ⟨W1, hW1⟩ : ∃ W1, (w2.alloc (.cells #[.slice none 0 0, .int .i64 0, .int .i64 0, .bool false] 69)).alloc (.cells #[.pointer none, .pointer (some ⟨w2.heap.size, 0, none⟩)] 23) = W1 := ⟨_, rfl⟩
  rw [hW1]
  have hbs : wb.heap.size = w.heap.size + 1 := by rw [← hwb]; simp
  have hb02 : Below w.heap.size w w2 := by
    refine Below.trans ?_ (hb2.mono (by omega))
    rw [← hwb]; exact (Below.refl _ _).alloc (Nat.le_refl _) _
  have HB2W : Hid (Below w2.heap.size w2 W1) := by rw [← hW1]; exact ((Below.refl _ _).alloc (Nat.le_refl _) _).alloc (by simp) _
  have HBW : Hid (Below w.heap.size w W1) := hb02.trans ((unhide HB2W).mono hb02.size)
  have HBX : Hid (∀ w', Below W1.heap.size W1 w' → w'.cell? ⟨w.heap.size, 0, none⟩ = some (.int .i64 act) ∧ w'.cell? ⟨w.heap.size, 1, none⟩ = some (.int .i64 blk) ∧ w'.cell? ⟨w.heap.size, 2, none⟩ = some (.int .i64 pag) ∧ w'.cell? ⟨w.heap.size, 3, none⟩ = some (.int .i64 at_) ∧ w'.cell? ⟨w.heap.size, 4, none⟩ = some (.int .i64 kep) ∧ w'.cell? ⟨w.heap.size, 5, none⟩ = some (.slice aob zs.length cpb)) := by
    intro w' hb
    have hb' : Below (w.heap.size + 1) wb w' := by
      have s2 := hb2.size
      have s3 := (unhide HB2W).size
      exact (hb2.mono (by omega)).trans (((unhide HB2W).mono (by omega)).trans (hb.mono (by omega)))
    rw [← hwb] at hb'
    exact box6' w' hb'
  have HV : Hid (∀ k, k < 2 → ∃ v, (∀ w', Below W1.heap.size W1 w' → w'.cell? ⟨w2.heap.size + 1, k, none⟩ = some v) ∧ IsNo W1 v) := by
    intro k hk
    have hs1 : W1.heap.size = w2.heap.size + 2 := by rw [← hW1]; simp
    have hc : ∀ j, W1.cell? ⟨w2.heap.size + 1, j, none⟩ = (#[.pointer none, .pointer (some ⟨w2.heap.size, 0, none⟩)] : Array Value)[j]? := fun j => by
      rw [← hW1]
      have := World.cell?_alloc_mark (w2.alloc (.cells #[.slice none 0 0, .int .i64 0, .int .i64 0, .bool false] 69)) #[.pointer none, .pointer (some ⟨w2.heap.size, 0, none⟩)] 23 (0, 0) j
      rw [World.size_alloc] at this
      exact this
    have hz : W1.cell? ⟨w2.heap.size, 0, none⟩ = some (.slice none 0 0) := by
      rw [← hW1]
      exact (World.cell?_alloc_old _ _ _ (by show w2.heap.size ≠ _; simp)).trans (World.cell?_alloc_mark w2 #[.slice none 0 0, .int .i64 0, .int .i64 0, .bool false] 69 (0, 0) 0)
    rcases (show k = 0 ∨ k = 1 by omega) with rfl | rfl
    · exact ⟨.pointer none, fun w' hb => (hb.cell (p := ⟨w2.heap.size + 1, 0, none⟩) (by show w2.heap.size + 1 < _; omega)).trans (hc 0), Or.inl rfl⟩
    · exact ⟨.pointer (some ⟨w2.heap.size, 0, none⟩), fun w' hb => (hb.cell (p := ⟨w2.heap.size + 1, 1, none⟩) (by show w2.heap.size + 1 < _; omega)).trans (hc 1), Or.inr ⟨_, rfl, hz⟩⟩
  clear hW1 hwb hb2 hb02 hbs HB2W
  go_loopw [13] (fun c wr => ∃ k : Nat, k ≤ 2 ∧ c = .int .i64 k ∧ Below W1.heap.size W1 wr) (fun c _ => 2 - (intOf c).toNat)
  case atStart => exact ⟨0, by omega, rfl, Below.refl _ _⟩
  case round =>
    obtain ⟨k, hk, rfl, hbr⟩ := hrel
    have HBR := hide hbr
    by_cases hlt : k < 2
    · obtain ⟨v, hv, hno⟩ := unhide HV k hlt
      have hv0 := hv wr hbr
      have HN : Hid (∀ w', Below W1.heap.size W1 w' → IsNo w' v) := fun w' hb => hno.below hb
      obtain ⟨b0, b1, b2, b3, b4, b5⟩ := unhide HBX wr hbr
      clear hv hno hbr
      go_wp2_with fail
      refine (read_err (by decide) (find_no (unhide HN wr (unhide HBR)) blk pag)).mono ?_
      rintro e wz ⟨rfl, rfl⟩
      go_wp2_with fail
      refine (prog_err (by decide) (find_no (unhide HN wr (unhide HBR)) blk pag)).mono ?_
      rintro e w3 ⟨rfl, hb3⟩
      have HB3 : Hid (Below W1.heap.size W1 w3) := (unhide HBR).trans (hb3.mono (unhide HBR).size)
      clear b0 b1 b2 b3 b4 b5 hb3
      obtain ⟨b0, b1, b2, b3, b4, b5⟩ := unhide HBX w3 (unhide HB3)
      have HN3 := hide (unhide HN w3 (unhide HB3))
      go_wp2_with fail
      refine (erase_err (by decide) (find_no (unhide HN3) blk 0)).mono ?_
      rintro e wz ⟨rfl, rfl⟩
      go_wp2_with fail
      refine (fuse_err (by decide) (ready_no (unhide HN3)) at_ kep).mono ?_
      rintro e wz ⟨rfl, rfl⟩
      go_wp2_with fail
      refine (crash_err (by decide) (ready_no (unhide HN3))).mono ?_
      rintro e wz ⟨rfl, rfl⟩
      go_wp2_with fail
      refine (restart_no (unhide HN3)).mono ?_
      rintro e wz ⟨rfl, rfl⟩
      go_wp2_with fail
      refine (spoil_err (by decide) (find_no (unhide HN3) 0 0)).mono ?_
      rintro e wz ⟨rfl, rfl⟩
      go_wp2_with fail
      refine (blocks_no (unhide HN3)).mono ?_
      rintro e wz ⟨rfl, rfl⟩
      go_wp2_with fail
      refine (wear_no (unhide HN3) blk).mono ?_
      rintro e wz ⟨rfl, rfl⟩
      go_wp2_with fail
      refine (used_no (unhide HN3) blk).mono ?_
      rintro e wz ⟨rfl, rfl⟩
      go_wp2_with fail
      refine (all_no (unhide HN3)).mono ?_
      rintro e wz ⟨rfl, rfl⟩
      clear b0 b1 b2 b3 b4 b5
      go_wp2_with fail
      refine (told_nil w3).mono ?_
      rintro e w4 ⟨rfl, hb4⟩
      have HB4 : Hid (Below W1.heap.size W1 w4) := (unhide HB3).trans (hb4.mono (unhide HB3).size)
      have HN4 := hide (unhide HN w4 (unhide HB4))
      clear hb4
      go_wp2_with fail
      refine (down_no (unhide HN4)).mono ?_
      rintro e wz ⟨rfl, rfl⟩
      go_wp2_with fail
      refine (fclone_no (unhide HN4)).mono ?_
      rintro e wz ⟨rfl, rfl⟩
      go_wp2_with fail
      refine (same_no (unhide HN4)).mono ?_
      rintro e wz ⟨rfl, rfl⟩
      go_wp2
      go_roundw
      case rel => first | exact ⟨k + 1, by omega, by go_num, unhide HB4⟩ | ((repeat apply Exists.intro); exact ⟨⟨k + 1, by omega, by go_num, unhide HB4⟩, rfl⟩)
      case measure => simp [intOf]; omega
    · go_wp2
      go_ret
      exact ⟨rfl, (unhide HBW).trans ((unhide HBR).mono (unhide HBW).size)⟩

end Go.Proofs.Yteehhbgjjamjiaa
