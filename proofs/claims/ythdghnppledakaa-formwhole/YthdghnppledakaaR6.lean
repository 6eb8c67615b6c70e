/- The document's own Unseal, whole (package trivetref01): it comes to the same. -/
import Derived.Test.YthdghnppledakaaR5
namespace Go.Proofs.Ythdghnppledakaa
open Go.RowKit

set_option maxHeartbeats 800000 in
theorem refUnseal_any (bv : Value) (zs : List Int) (w : World) (hs : Sees w .u8 bv zs) (hby : Byt zs) (hm : zs.length ≤ 140737488351232) :
    Calls Try.prog 26 #[bv] w fun e w' => ∃ x, e = .returned (.tuple #[x, .int .i64 (tu zs).2.1, .int .i64 (tu zs).2.2]) ∧ Sees w' .u8 x (tu zs).1 ∧ Below w.heap.size w w' := by
  have HT := hide (refTake_any bv zs w hs hby (by omega))
  have hle := tn_le zs
  have hp := tn_put zs hby
  unfold tu
  generalize tn zs = t at *
  obtain ⟨n, k, er⟩ := t
  dsimp only at hle hp ⊢
  obtain ⟨ao, cap, rfl, hlc, hnil, hc⟩ := hs
  have hs : Sees w .u8 (.slice ao zs.length cap) zs := ⟨ao, cap, rfl, hlc, hnil, hc⟩
  clear hc hnil
  by_cases he : er ≠ 0
  · rw [if_pos he]
    have hef : (er != 0) = true := by rw [bne_iff_ne]; exact he
    clear hle hp
    go_enter Try.func26, Try.ntmps26
    go_wp2_with (go_at_call 10; refine (unhide HT).mono ?_; rintro e w1 ⟨rfl, rfl⟩)
    go_ret3
    exact ⟨_, rfl, Sees.nil _ _, Below.refl _ _⟩
  have he0 : er = 0 := by simpa using he
  subst he0
  rw [if_neg he]
  obtain ⟨hk1, hk2⟩ := hle rfl
  obtain ⟨_, hn1, hn2⟩ := hp rfl
  clear hp hle he
  by_cases hn : n < 0
  · rw [if_pos hn]
    go_enter Try.func26, Try.ntmps26
    go_wp2_with (go_at_call 10; refine (unhide HT).mono ?_; rintro e w1 ⟨rfl, rfl⟩)
    go_ret3
    exact ⟨_, rfl, Sees.nil _ _, Below.refl _ _⟩
  rw [if_neg hn]
  by_cases hl : 1048576 < n
  · rw [if_pos hl]
    go_enter Try.func26, Try.ntmps26
    go_wp2_with (go_at_call 10; refine (unhide HT).mono ?_; rintro e w1 ⟨rfl, rfl⟩)
    go_ret3
    exact ⟨_, rfl, Sees.nil _ _, Below.refl _ _⟩
  rw [if_neg hl]
  by_cases hsh : (zs.length : Int) - k < n + 8
  · rw [if_pos hsh]
    go_enter Try.func26, Try.ntmps26
    go_wp2_with (go_at_call 10; refine (unhide HT).mono ?_; rintro e w1 ⟨rfl, rfl⟩)
    go_ret3
    exact ⟨_, rfl, Sees.nil _ _, Below.refl _ _⟩
  rw [if_neg hsh]
  obtain ⟨m, rfl⟩ := Int.eq_ofNat_of_zero_le (by omega : 0 ≤ n)
  rw [Int.toNat_natCast]
  have hb2 : Byt ((zs.drop (k + m)).take 8) := (hby.drop _).take _
  have hl2 : ((zs.drop (k + m)).take 8).length = 8 := by simp; omega
  obtain ⟨hc1, hc2⟩ := chkF_bounds c0 ((zs.drop k).take m) c0_bounds.1 c0_bounds.2
  have hvl := val_low _ hb2 hl2 _ hc1 hc2
  have hbe := str_beq (lowL_byte 8 (chkF c0 ((zs.drop k).take m))) hb2
  refine (refUnseal_rest ao cap k m zs w hs hby hm hlc (by omega) (by omega) HT _ rfl).mono ?_
  rintro e w' ⟨x, h1, hb⟩
  rw [hbe] at h1
  by_cases hv : valL ((zs.drop (k + m)).take 8) = chkF c0 ((zs.drop k).take m)
  · rw [if_neg (show ¬ (valL ((zs.drop (k + m)).take 8) ≠ chkF c0 ((zs.drop k).take m)) from fun h => h hv)]
    rw [decide_eq_true (hvl.2 hv), if_neg (by decide)] at h1
    exact ⟨x, h1.1, h1.2, hb⟩
  · rw [if_pos (show valL ((zs.drop (k + m)).take 8) ≠ chkF c0 ((zs.drop k).take m) from hv)]
    rw [decide_eq_false (fun h => hv (hvl.1 h)), if_pos (by decide)] at h1
    exact ⟨_, h1, Sees.nil _ _, hb⟩

theorem tu_byte (l : List Int) (hl : Byt l) : Byt (tu l).1 := by
  by_cases h : (tu l).2.2 ≠ 0
  · rw [(tu_no l h).1]; intro b hb; cases hb
  · unfold tu at h ⊢
    by_cases c1 : (tn l).2.2 ≠ 0
    · rw [if_pos c1]; intro b hb; cases hb
    rw [if_neg c1]
    by_cases c2 : (tn l).1 < 0
    · rw [if_pos c2]; intro b hb; cases hb
    rw [if_neg c2]
    by_cases c3 : 1048576 < (tn l).1
    · rw [if_pos c3]; intro b hb; cases hb
    rw [if_neg c3]
    by_cases c4 : (l.length : Int) - (tn l).2.1 < (tn l).1 + 8
    · rw [if_pos c4]; intro b hb; cases hb
    rw [if_neg c4]
    by_cases c5 : valL ((l.drop ((tn l).2.1 + (tn l).1.toNat)).take 8) ≠ chkF c0 ((l.drop (tn l).2.1).take (tn l).1.toNat)
    · rw [if_pos c5]; intro b hb; cases hb
    rw [if_neg c5]
    exact (hl.drop _).take _

end Go.Proofs.Ythdghnppledakaa
