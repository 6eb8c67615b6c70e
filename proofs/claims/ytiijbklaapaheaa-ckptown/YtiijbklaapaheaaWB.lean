/- Contracts of TakeBlob and of the statements' own live. -/
import Derived.Test.YtiijbklaapaheaaW9
import Derived.Test.YtiijbklaapaheaaWA
namespace Go.Proofs.Ytiijbklaapaheaa
open Go.RowKit
set_option maxRecDepth 100000

theorem tb_no (l : List Int) (h : (tb l).2.2 ≠ 0) : (tb l).1 = [] ∧ (tb l).2.1 = 0 := by
  unfold tb at h ⊢
  by_cases c1 : (tn l).2.2 ≠ 0
  · rw [if_pos c1]; exact ⟨rfl, rfl⟩
  rw [if_neg c1] at h ⊢
  by_cases c2 : (tn l).1 < 0
  · rw [if_pos c2]; exact ⟨rfl, rfl⟩
  rw [if_neg c2] at h ⊢
  by_cases c3 : (l.length : Int) - (tn l).2.1 < (tn l).1
  · rw [if_pos c3]; exact ⟨rfl, rfl⟩
  rw [if_neg c3] at h
  exact absurd rfl h

set_option maxHeartbeats 400000 in
/-- TakeBlob. -/
theorem takeBlob_any (bv : Value) (zs : List Int) (w : World) (hs : Sees w .u8 bv zs) (hby : Byt zs) (hm : zs.length ≤ 140737488355328) :
    Calls Try.prog 36 #[bv] w fun e w' => ∃ x, e = .returned (.tuple #[x, .int .i64 (tb zs).2.1, .int .i64 (tb zs).2.2]) ∧ w'.ownsRow w.heap.size 5 1 x (tb zs).1.length (ints .u8 (tb zs).1) ∧ Below w.heap.size w w' := by
  have hst := tw_sees hs
  have hnum := blobR_any (w.heap.size + 1) bv zs 0 (tw w bv) (tw_at w bv) hst hby hm (Nat.zero_le _)
  rw [List.drop_zero, tw_size] at hnum
  obtain ⟨ao, cap, rfl, hlc, hnil, hc⟩ := hs
  have key : Calls Try.prog 64 #[.slice ao zs.length cap, .func (Fn.func 70) #[] #[]] w fun e w' => ∃ x, e = .returned (.tuple #[x, .int .i64 (tb zs).2.1, .int .i64 (tb zs).2.2]) ∧ w'.ownsRow w.heap.size 5 1 x (tb zs).1.length (ints .u8 (tb zs).1) ∧ Below w.heap.size w w' := by
    by_cases he : (tb zs).2.2 = 0
    · refine (take37_38_ok ao zs.length cap (tb zs).2.1 w (fun x w' => w'.ownsRow (w.heap.size + 2) 5 1 x (tb zs).1.length (ints .u8 (tb zs).1)) (fun _ _ _ h => h) (fun _ _ _ h => ownsRow_setCell_below h (by show w.heap.size < _; omega) _) (fun _ _ _ h => h.alloc _) (hnum.mono ?_)).mono ?_
      · rintro e w' ⟨h1, h2, _⟩
        obtain ⟨x, h3, h4, h5⟩ := h2 he
        rw [Nat.zero_add] at h4
        exact ⟨x, h3, h4, h1, h5⟩
      · rintro e w' ⟨x, rfl, hb, ho⟩
        exact ⟨x, by rw [he], own_mono ho (by omega), hb⟩
    · refine (take37_38_no ao zs.length cap (tb zs).2.2 w (hnum.mono ?_)).mono ?_
      · rintro e w' ⟨h1, _, h3⟩
        exact ⟨h3 he, h1⟩
      · rintro e w' ⟨rfl, hb⟩
        obtain ⟨e1, e2⟩ := tb_no zs he
        rw [e1, e2]
        exact ⟨_, rfl, World.ownsRow_nil _ _ _ _, hb⟩
  have HK := hide key
  clear key hst hnum hc
  go_enter Try.func36, Try.ntmps36
  go_wp2_with (go_at_call 64; refine (unhide HK).mono ?_; rintro e w1 ⟨x, rfl, ho, hb⟩)
  go_ret3
  exact ⟨x, rfl, ho, hb⟩

end Go.Proofs.Ytiijbklaapaheaa
