/- Contracts of TakeBlob and of the statements' own live. -/
import Derived.Test.YthdghnppledakaaW9
import Derived.Test.YthdghnppledakaaWA
namespace Go.Proofs.Ythdghnppledakaa
open Go.RowKit

theorem tb_no (l : List Int) (h : (tb l).2.2 ≠ 0) : (tb l).1 = [] ∧ (tb l).2.1 = 0 := by
  unfold tb at h ⊢
  by_cases c1 : (tn l).2.2 ≠ 0
  · rw [if_pos c1]; exact ⟨rfl, rfl⟩
  rw [if_neg c1] at h ⊢
  by_cases c2 : (tn l).1 < 0
  · rw [if_pos c2]; exact ⟨rfl, rfl⟩
  rw [if_neg c2] at h ⊢
  by_cases c3 : (l.length : Int) - (tn l).2.1 < (tn l).1
  · rw [if_pos c3]; exact ⟨rfl, rfl⟩
  rw [if_neg c3] at h
  exact absurd rfl h

set_option maxHeartbeats 400000 in
/-- TakeBlob. -/
theorem takeBlob_any (bv : Value) (zs : List Int) (w : World) (hs : Sees w .u8 bv zs) (hby : Byt zs) (hm : zs.length ≤ 140737488355328) :
    Calls Try.prog 16 #[bv] w fun e w' => ∃ x, e = .returned (.tuple #[x, .int .i64 (tb zs).2.1, .int .i64 (tb zs).2.2]) ∧ w'.ownsRow w.heap.size 5 1 x (tb zs).1.length (ints .u8 (tb zs).1) ∧ Below w.heap.size w w' := by
  have hst := tw_sees hs
  have hnum := blobR_any (w.heap.size + 1) bv zs 0 (tw w bv) (tw_at w bv) hst hby hm (Nat.zero_le _)
  rw [List.drop_zero, tw_size] at hnum
  obtain ⟨ao, cap, rfl, hlc, hnil, hc⟩ := hs
  have key : Calls Try.prog 37 #[.slice ao zs.length cap, .func (Fn.func 38) #[] #[]] w fun e w' => ∃ x, e = .returned (.tuple #[x, .int .i64 (tb zs).2.1, .int .i64 (tb zs).2.2]) ∧ w'.ownsRow w.heap.size 5 1 x (tb zs).1.length (ints .u8 (tb zs).1) ∧ Below w.heap.size w w' := by
    by_cases he : (tb zs).2.2 = 0
    · refine (take37_38_ok ao zs.length cap (tb zs).2.1 w (fun x w' => w'.ownsRow (w.heap.size + 2) 5 1 x (tb zs).1.length (ints .u8 (tb zs).1)) (fun _ _ _ h => h) (fun _ _ _ h => ownsRow_setCell_below h (by show w.heap.size < _; omega) _) (fun _ _ _ h => h.alloc _) (hnum.mono ?_)).mono ?_
      · rintro e w' ⟨h1, h2, _⟩
        obtain ⟨x, h3, h4, h5⟩ := h2 he
        rw [Nat.zero_add] at h4
        exact ⟨x, h3, h4, h1, h5⟩
      · rintro e w' ⟨x, rfl, hb, ho⟩
        exact ⟨x, by rw [he], own_mono ho (by omega), hb⟩
    · refine (take37_38_no ao zs.length cap (tb zs).2.2 w (hnum.mono ?_)).mono ?_
      · rintro e w' ⟨h1, _, h3⟩
        exact ⟨h3 he, h1⟩
      · rintro e w' ⟨rfl, hb⟩
        obtain ⟨e1, e2⟩ := tb_no zs he
        rw [e1, e2]
        exact ⟨_, rfl, World.ownsRow_nil _ _ _ _, hb⟩
  have HK := hide key
  clear key hst hnum hc
  go_enter Try.func16, Try.ntmps16
  go_wp2_with (go_at_call 37; refine (unhide HK).mono ?_; rintro e w1 ⟨x, rfl, ho, hb⟩)
  go_ret3
  exact ⟨x, rfl, ho, hb⟩

theorem tn_live : tn [4, 44, 1, 9] = (300, 3, 0) := by decide
theorem putL_live : ([7] : List Int) ++ putL [-5, 0] = [7, 3, 5, 0] := by decide
theorem sizeL_live : sizeL [-5, 0] = 3 := by decide
theorem byt_dec (l : List Int) (h : l.all (fun b => decide (0 ≤ b ∧ b ≤ 255)) = true) : Byt l := fun b hb => by
  have := List.all_eq_true.1 h b hb; simpa using this

theorem live_num (w : World) : Calls Try.prog 9 #[.slice (some ⟨w.heap.size, 0, none⟩) 4 4] (w.alloc (.cells #[.int .u8 4, .int .u8 44, .int .u8 1, .int .u8 9] 5)) fun e w' =>
    e = .returned (.tuple #[.int .i64 300, .int .i64 3, .int .i64 0]) ∧ Below w.heap.size w w' := by
  refine (takeNum_any _ [4, 44, 1, 9] _ (sees_new w .u8 [4, 44, 1, 9] 5 4 rfl) (byt_dec _ (by decide)) (by decide)).mono ?_
  rintro e w' ⟨rfl, hb⟩
  rw [tn_live]
  exact ⟨rfl, ((Below.refl _ _).alloc (Nat.le_refl _) _).trans (hb.mono (by simp))⟩

theorem live_put (w : World) : Calls Try.prog 13 #[.slice (some ⟨w.heap.size, 0, none⟩) 1 1, .slice (some ⟨w.heap.size + 1, 0, none⟩) 2 2] ((w.alloc (.cells #[.int .u8 7] 5)).alloc (.cells #[.int .i64 (-5), .int .i64 0] 2)) fun e w' =>
    ∃ x, e = .returned x ∧ Sees w' .u8 x [7, 3, 5, 0] ∧ Below w.heap.size w w' := by
  have h1 : Sees (w.alloc (.cells #[.int .u8 7] 5)) .u8 (.slice (some ⟨w.heap.size, 0, none⟩) 1 1) [7] := sees_new w .u8 [7] 5 1 rfl
  have h2 : Sees ((w.alloc (.cells #[.int .u8 7] 5)).alloc (.cells #[.int .i64 (-5), .int .i64 0] 2)) .i64 (.slice (some ⟨w.heap.size + 1, 0, none⟩) 2 2) [-5, 0] := by
    have := sees_new (w.alloc (.cells #[.int .u8 7] 5)) .i64 [-5, 0] 2 2 rfl
    simpa [ints] using this
  refine (num_any _ _ [7] [-5, 0] _ (h1.below ((Below.refl _ _).alloc (Nat.le_refl _) _)) h2 (by decide) (fun t ht => by
    have ht' : t < 2 := ht
    rcases (by omega : t = 0 ∨ t = 1) with rfl | rfl <;> decide) (by decide)).mono ?_
  rintro e w' ⟨x, rfl, ho, hb⟩
  rw [putL_live] at ho
  exact ⟨x, rfl, (sees_of_own ho).2, (((Below.refl _ _).alloc (Nat.le_refl _) _).alloc (by simp) _).trans (hb.mono (by simp; omega))⟩

set_option maxHeartbeats 800000 in
/-- The statements' own 'live': true. -/
theorem live_any (w : World) : Calls Try.prog 11 #[] w fun e w' => e = .returned (.bool true) ∧ Below w.heap.size w w' := by
  go_enter Try.func11, Try.ntmps11
  go_wp2_with (go_at_call 9; refine (live_num w).mono ?_; rintro e w1 ⟨rfl, hb1⟩)
  go_wp2_with (go_at_call 13; refine (live_put w1).mono ?_; rintro e w2 ⟨x, rfl, hx, hb2⟩)
  have hx2 := hx.below ((Below.refl _ _).alloc (Nat.le_refl _) (.cells #[.int .u8 7, .int .u8 3, .int .u8 5, .int .u8 0] 5))
  have hy2 : Sees (w2.alloc (.cells #[.int .u8 7, .int .u8 3, .int .u8 5, .int .u8 0] 5)) .u8 (.slice (some ⟨w2.heap.size, 0, none⟩) 4 4) [7, 3, 5, 0] := sees_new w2 .u8 [7, 3, 5, 0] 5 4 rfl
  have hbd : Byt [7, 3, 5, 0] := byt_dec _ (by decide)
  have HE := hide (equal_any _ _ _ _ _ hx2 hy2 hbd hbd)
  clear hx2 hy2 hx
  go_wp2_with (first
    | (go_at_call 12; refine (unhide HE).mono ?_; rintro e w3 ⟨rfl, rfl⟩)
    | (go_at_call 27; refine (check_nil _).mono ?_; rintro e w4 ⟨rfl, rfl⟩))
  go_ret
  exact ⟨rfl, (hb1.trans (hb2.mono hb1.size)).alloc (Nat.le_trans hb1.size hb2.size) _⟩

end Go.Proofs.Ythdghnppledakaa
