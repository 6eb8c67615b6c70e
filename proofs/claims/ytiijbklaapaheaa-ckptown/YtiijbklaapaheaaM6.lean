/- Contracts of SetFuse, Crash, Restart, Down, Blocks, Wear, New. -/
import Derived.Test.YtiijbklaapaheaaM5
namespace Go.Proofs.Ytiijbklaapaheaa
open Go.RowKit
set_option maxRecDepth 100000

theorem keep_mod (k : Int) : (wrap64 (k.tmod 3 + 3)).tmod 3 = k % 3 := by
  have a : k.tmod 3 = k % 3 ∨ k.tmod 3 = k % 3 - 3 := by
    rcases Int.le_total 0 k with h | h
    · left; exact Int.tmod_eq_emod_of_nonneg h
    · have e : k.tmod 3 = -((-k) % 3) := by
        have := Int.neg_tmod (-k) 3
        rw [Int.neg_neg] at this
        rw [this, Int.tmod_eq_emod_of_nonneg (by omega)]
      omega
  have hw : wrap64 (k.tmod 3 + 3) = k.tmod 3 + 3 := by unfold wrap64; omega
  rw [hw, Int.tmod_eq_emod_of_nonneg (by omega)]
  omega

set_option maxHeartbeats 400000 in
theorem fuse_ok {g h cap : Nat} {F : Fl} {w : World} (H : IsFl w g h cap F) (hd : F.down = false) (c k : Int) (hc : 1 ≤ c) :
    Calls Try.prog 20 #[P0 h, .int .i64 c, .int .i64 k] w fun e w' => e = .returned (.int .i64 0) ∧ IsFl w' g h cap { F with cnt := c, keep := k % 3 } ∧ Upd (Two g h) w.heap.size w w' := by
  have HR := hide (ready_up H hd)
  have h1 := H.cnt; have h2 := H.keep; have hf := H.frH
  have HI := hide ((H.setCnt c).setKeep (k % 3))
  clear H
  go_enter Try.func20, Try.ntmps20
  go_wp2_with (go_at_call 49; refine (unhide HR).mono ?_; rintro e w' ⟨rfl, rfl⟩)
  go_ret
  rw [keep_mod]
  exact ⟨rfl, unhide HI, ((Upd.refl _ _ _).setCell (Or.inl (Or.inr rfl)) _).setCell (Or.inl (Or.inr rfl)) _⟩

set_option maxHeartbeats 400000 in
theorem fuse_arg {g h cap : Nat} {F : Fl} {w : World} (H : IsFl w g h cap F) (hd : F.down = false) (c k : Int) (hc : c < 1) :
    Calls Try.prog 20 #[P0 h, .int .i64 c, .int .i64 k] w fun e w' => e = .returned (.int .i64 1) ∧ w = w' := by
  have HR := hide (ready_up H hd)
  clear H
  go_enter Try.func20, Try.ntmps20
  go_wp2_with (go_at_call 49; refine (unhide HR).mono ?_; rintro e w' ⟨rfl, rfl⟩)
  go_ret
  exact ⟨rfl, rfl⟩

set_option maxHeartbeats 400000 in
theorem fuse_err {v : Value} {er : Int} {w : World} (he : er ≠ 0) (HR : Calls Try.prog 49 #[v] w fun e w' => e = .returned (.int .i64 er) ∧ w = w') (c k : Int) :
    Calls Try.prog 20 #[v, .int .i64 c, .int .i64 k] w fun e w' => e = .returned (.int .i64 er) ∧ w = w' := by
  have HR := hide HR
  go_enter Try.func20, Try.ntmps20
  go_wp2_with (go_at_call 49; refine (unhide HR).mono ?_; rintro e w' ⟨rfl, rfl⟩)
  go_ret
  exact ⟨rfl, rfl⟩

set_option maxHeartbeats 400000 in
theorem restart_ok {g h cap : Nat} {F : Fl} {w : World} (H : IsFl w g h cap F) (hd : F.down = true) :
    Calls Try.prog 48 #[P0 h] w fun e w' => e = .returned (.int .i64 0) ∧ IsFl w' g h cap { F with down := false } ∧ Upd (Two g h) w.heap.size w w' := by
  have HM := hide (made_yes H)
  have h1 := H.down; rw [hd] at h1
  have hf := H.frH
  have HI := hide (H.setDown false)
  clear H hd
  go_enter Try.func48, Try.ntmps48
  go_wp2_with (go_at_call 73; refine (unhide HM).mono ?_; rintro e w' ⟨rfl, rfl⟩)
  go_ret
  exact ⟨rfl, unhide HI, (Upd.refl _ _ _).setCell (Or.inl (Or.inr rfl)) _⟩

set_option maxHeartbeats 400000 in
theorem restart_up {g h cap : Nat} {F : Fl} {w : World} (H : IsFl w g h cap F) (hd : F.down = false) :
    Calls Try.prog 48 #[P0 h] w fun e w' => e = .returned (.int .i64 1) ∧ w = w' := by
  have HM := hide (made_yes H)
  have h1 := H.down; rw [hd] at h1
  clear H hd
  go_enter Try.func48, Try.ntmps48
  go_wp2_with (go_at_call 73; refine (unhide HM).mono ?_; rintro e w' ⟨rfl, rfl⟩)
  go_ret
  exact ⟨rfl, rfl⟩

set_option maxHeartbeats 400000 in
theorem restart_no {v : Value} {w : World} (H : IsNo w v) :
    Calls Try.prog 48 #[v] w fun e w' => e = .returned (.int .i64 2) ∧ w = w' := by
  have HM := hide (made_no H)
  clear H
  go_enter Try.func48, Try.ntmps48
  go_wp2_with (go_at_call 73; refine (unhide HM).mono ?_; rintro e w' ⟨rfl, rfl⟩)
  go_ret
  exact ⟨rfl, rfl⟩

set_option maxHeartbeats 400000 in
theorem down_any {g h cap : Nat} {F : Fl} {w : World} (H : IsFl w g h cap F) :
    Calls Try.prog 43 #[P0 h] w fun e w' => e = .returned (.bool F.down) ∧ w = w' := by
  have HM := hide (made_yes H)
  have h1 := H.down
  clear H
  go_enter Try.func43, Try.ntmps43
  go_wp2_with (go_at_call 73; refine (unhide HM).mono ?_; rintro e w' ⟨rfl, rfl⟩)
  go_ret
  exact ⟨ret_bool (by simp), rfl⟩

set_option maxHeartbeats 400000 in
theorem down_no {v : Value} {w : World} (H : IsNo w v) :
    Calls Try.prog 43 #[v] w fun e w' => e = .returned (.bool false) ∧ w = w' := by
  have HM := hide (made_no H)
  clear H
  go_enter Try.func43, Try.ntmps43
  go_wp2_with (go_at_call 73; refine (unhide HM).mono ?_; rintro e w' ⟨rfl, rfl⟩)
  go_ret
  exact ⟨rfl, rfl⟩

set_option maxHeartbeats 400000 in
theorem blocks_any {g h cap : Nat} {F : Fl} {w : World} (H : IsFl w g h cap F) :
    Calls Try.prog 72 #[P0 h] w fun e w' => e = .returned (.int .i64 F.n) ∧ w = w' := by
  have HM := hide (made_yes H)
  have h1 := H.ptr
  clear H
  go_enter Try.func72, Try.ntmps72
  go_wp2_with (go_at_call 73; refine (unhide HM).mono ?_; rintro e w' ⟨rfl, rfl⟩)
  go_ret
  exact ⟨rfl, rfl⟩

set_option maxHeartbeats 400000 in
theorem blocks_no {v : Value} {w : World} (H : IsNo w v) :
    Calls Try.prog 72 #[v] w fun e w' => e = .returned (.int .i64 0) ∧ w = w' := by
  have HM := hide (made_no H)
  clear H
  go_enter Try.func72, Try.ntmps72
  go_wp2_with (go_at_call 73; refine (unhide HM).mono ?_; rintro e w' ⟨rfl, rfl⟩)
  go_ret
  exact ⟨rfl, rfl⟩

set_option maxHeartbeats 400000 in
theorem wear_any {g h cap : Nat} {F : Fl} {w : World} (H : IsFl w g h cap F) (i : Nat) (hi : i < F.n) :
    Calls Try.prog 25 #[P0 h, .int .i64 i] w fun e w' => e = .returned (.int .i64 (F.wear i)) ∧ w = w' := by
  have HS := hide (has_yes H i)
  have hb : (decide (0 ≤ (i : Int)) && decide ((i : Int) < F.n)) = true := by simp; omega
  rw [hb] at HS
  have h1 := H.ptr; have h2 := H.wear i hi; have h3 := H.fit
  clear H hb
  go_enter Try.func25, Try.ntmps25
  go_wp2_with (go_at_call 55; refine (unhide HS).mono ?_; rintro e w' ⟨rfl, rfl⟩)
  go_ret
  exact ⟨rfl, rfl⟩

set_option maxHeartbeats 400000 in
theorem wear_out {g h cap : Nat} {F : Fl} {w : World} (H : IsFl w g h cap F) (i : Int) (hi : ¬ (0 ≤ i ∧ i < F.n)) :
    Calls Try.prog 25 #[P0 h, .int .i64 i] w fun e w' => e = .returned (.int .i64 0) ∧ w = w' := by
  have HS := hide (has_yes H i)
  have hb : (decide (0 ≤ i) && decide (i < F.n)) = false := by simp; omega
  rw [hb] at HS
  clear H hb
  go_enter Try.func25, Try.ntmps25
  go_wp2_with (go_at_call 55; refine (unhide HS).mono ?_; rintro e w' ⟨rfl, rfl⟩)
  go_ret
  exact ⟨rfl, rfl⟩

set_option maxHeartbeats 400000 in
theorem wear_no {v : Value} {w : World} (H : IsNo w v) (i : Int) :
    Calls Try.prog 25 #[v, .int .i64 i] w fun e w' => e = .returned (.int .i64 0) ∧ w = w' := by
  have HS := hide (has_no H i)
  clear H
  go_enter Try.func25, Try.ntmps25
  go_wp2_with (go_at_call 55; refine (unhide HS).mono ?_; rintro e w' ⟨rfl, rfl⟩)
  go_ret
  exact ⟨rfl, rfl⟩

def zCells : Array Value := #[.int .i64 0, .string ⟨#[]⟩, .int .i64 0, .string ⟨#[]⟩, .int .i64 0, .string ⟨#[]⟩, .int .i64 0, .string ⟨#[]⟩, .int .i64 0, .string ⟨#[]⟩, .int .i64 0, .string ⟨#[]⟩, .int .i64 0, .string ⟨#[]⟩, .int .i64 0, .string ⟨#[]⟩, .int .i64 0, .string ⟨#[]⟩, .int .i64 0, .string ⟨#[]⟩, .int .i64 0, .string ⟨#[]⟩, .int .i64 0, .string ⟨#[]⟩, .int .i64 0, .string ⟨#[]⟩, .int .i64 0, .string ⟨#[]⟩, .int .i64 0, .string ⟨#[]⟩, .int .i64 0, .string ⟨#[]⟩, .int .i64 0]
theorem Try.info109 : (Try.prog.info? 109).map (fun i => (i.zero, i.size, i.bytes)) = some (some (.agg zCells), 33, 392) := by kernel_rfl

theorem z_st (j : Nat) (hj : j < 16) : zCells[j * 2]! = .int .i64 0 ∧ zCells[j * 2 + 1]! = .string ⟨#[]⟩ := by
  match j, hj with
  | 0, _ => exact ⟨rfl, rfl⟩
  | 1, _ => exact ⟨rfl, rfl⟩
  | 2, _ => exact ⟨rfl, rfl⟩
  | 3, _ => exact ⟨rfl, rfl⟩
  | 4, _ => exact ⟨rfl, rfl⟩
  | 5, _ => exact ⟨rfl, rfl⟩
  | 6, _ => exact ⟨rfl, rfl⟩
  | 7, _ => exact ⟨rfl, rfl⟩
  | 8, _ => exact ⟨rfl, rfl⟩
  | 9, _ => exact ⟨rfl, rfl⟩
  | 10, _ => exact ⟨rfl, rfl⟩
  | 11, _ => exact ⟨rfl, rfl⟩
  | 12, _ => exact ⟨rfl, rfl⟩
  | 13, _ => exact ⟨rfl, rfl⟩
  | 14, _ => exact ⟨rfl, rfl⟩
  | 15, _ => exact ⟨rfl, rfl⟩
  | k + 16, h => omega

theorem made_at (n t : Nat) (ht : t < n * 33) : (madeCells zCells (n * 33)).toList[t]? = some (zCells[t % 33]!) := by
  unfold madeCells
  rw [Array.getElem?_toList, Array.getElem?_map, Array.getElem?_range, if_pos ht]
  rfl

/-- A new flash. -/
def Fl.blank (n : Nat) : Fl := { n := n, st := fun _ _ => 0, bs := fun _ _ => ⟨#[]⟩, wear := fun _ => 0, cnt := 0, keep := 0, down := false }

/-- A flash over a row of its own and a new struct. -/
theorem isFl_of_own {w1 : World} {B g cap : Nat} {F : Fl} {xs : List Value} (hp : 0 < F.n) (hle : F.n ≤ 1024) (ho : w1.ownsRow B 109 33 (.slice (some ⟨g, 0, none⟩) F.n cap) F.n xs)
    (c1 : ∀ i j, i < F.n → j < 16 → xs[i * 33 + j * 2]? = some (.int .i64 (F.st i j))) (c2 : ∀ i j, i < F.n → j < 16 → xs[i * 33 + j * 2 + 1]? = some (.string (F.bs i j))) (c3 : ∀ i, i < F.n → xs[i * 33 + 32]? = some (.int .i64 (F.wear i))) :
    IsFl (w1.alloc (.cells #[.slice (some ⟨g, 0, none⟩) F.n cap, .int .i64 F.cnt, .int .i64 F.keep, .bool F.down] 84)) g w1.heap.size cap F ∧ B ≤ g := by
  have ho' := ho
  rcases ho'.2 with ⟨hv, _⟩ | ⟨g', cap', cur, hv, hB, hh, hcap, _⟩
  · cases hv
  simp only [Value.slice.injEq, Option.some.injEq, Addr.mk.injEq, and_true, true_and] at hv
  obtain ⟨rfl, rfl⟩ := hv
  have hlt : g < w1.heap.size := (Array.getElem?_eq_some_iff.1 hh).1
  have hne : g ≠ w1.heap.size := by omega
  have cell : ∀ t v, xs[t]? = some v → (w1.alloc (.cells #[.slice (some ⟨g, 0, none⟩) F.n cap, .int .i64 F.cnt, .int .i64 F.keep, .bool F.down] 84)).cell? ⟨g, t, none⟩ = some v := fun t v h => by
    have := ho.cells (g := g) rfl t v h
    have hadd : (⟨g, 0, none⟩ : Addr).add t = ⟨g, t, none⟩ := by unfold Addr.add; split <;> simp_all
    rw [hadd] at this
    exact (World.cell?_alloc_old w1 _ ⟨g, t, none⟩ hne).trans this
  refine ⟨⟨hne, hp, hle, hcap, ?_, ?_, ?_, ?_, fun o => ?_, fun i j hi hj => cell _ _ (c1 i j hi hj), fun i j hi hj => cell _ _ (c2 i j hi hj), fun i hi => cell _ _ (c3 i hi), fun o => ?_⟩, hB⟩
  · exact World.cell?_alloc_mark w1 _ 84 (0, 0) 0
  · exact World.cell?_alloc_mark w1 _ 84 (0, 0) 1
  · exact World.cell?_alloc_mark w1 _ 84 (0, 0) 2
  · exact World.cell?_alloc_mark w1 _ 84 (0, 0) 3
  · exact World.frozen?_alloc_new w1 _ 84 o
  · exact (World.frozen?_alloc_old w1 _ ⟨g, o, none⟩ hne).trans (ho.frozenAt o)

set_option maxRecDepth 100000 in
set_option maxHeartbeats 400000 in
theorem new_ok (n : Nat) (w : World) (h1 : 1 ≤ n) (h2 : n ≤ 1024) :
    Calls Try.prog 17 #[.int .i64 n] w fun e w' => ∃ g h cap, e = .returned (.tuple #[P0 h, .int .i64 0]) ∧ IsFl w' g h cap (Fl.blank n) ∧ Below w.heap.size w w' ∧ w.heap.size ≤ g ∧ w.heap.size ≤ h := by
  obtain ⟨i0, hi, hz0, hz1, hz2⟩ := info_parts Try.info109
  go_enter Try.func17, Try.ntmps17
  go_wp2_with (at_make; refine wpList_make_full _ rfl _ _ 80 rfl w.heap.size 109 i0 (.agg zCells) 33 Try.underlying80 hi hz0 hz1 _ _ _ _ n rfl rfl rfl rfl ?b2 ?b3 (Nat.le_refl _) ?_)
  case b2 => rw [hz2]; omega
  case b3 => unfold maxLen; omega
  intro w1 ho hg
  go_wp2
  go_ret2
  obtain ⟨hI, hB⟩ := isFl_of_own (F := Fl.blank n) h1 h2 ho
    (fun i j (hi : i < n) hj => by
      rw [made_at n _ (by omega), show (i * 33 + j * 2) % 33 = j * 2 by omega, (z_st j hj).1]; rfl)
    (fun i j (hi : i < n) hj => by
      rw [made_at n _ (by omega), show (i * 33 + j * 2 + 1) % 33 = j * 2 + 1 by omega, (z_st j hj).2]; rfl)
    (fun i (hi : i < n) => by
      rw [made_at n _ (by omega), show (i * 33 + 32) % 33 = 32 by omega]; rfl)
  exact ⟨_, _, _, rfl, hI, ((Below.refl _ _).grown hg (Nat.le_refl _) (fun k h => by cases h)).alloc hg.size _, hB, hg.size⟩

set_option maxRecDepth 100000 in
set_option maxHeartbeats 400000 in
theorem new_arg (n : Int) (w : World) (h : ¬ (1 ≤ n ∧ n ≤ 1024)) :
    Calls Try.prog 17 #[.int .i64 n] w fun e w' => e = .returned (.tuple #[.pointer none, .int .i64 1]) ∧ w = w' := by
  have h' : n < 1 ∨ 1024 < n := by omega
  clear h
  rcases h' with h | h
  all_goals
    go_enter Try.func17, Try.ntmps17
    go_wp2
    go_ret2
    exact ⟨rfl, rfl⟩

end Go.Proofs.Ytiijbklaapaheaa
