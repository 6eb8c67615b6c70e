/- The document's own Nums (package trivetref01): it comes to the same. -/
import Derived.Test.YtiijbklaapaheaaKK
namespace Go.Proofs.Ytiijbklaapaheaa
open Go.RowKit
set_option maxRecDepth 100000

theorem SeesB.drop {B : Nat} {w : World} {k : IntKind} {ao : Option Addr} {cap : Nat} {zs : List Int} (h : SeesB B w k (.slice ao zs.length cap) zs) (p : Nat) (hp : p ≤ zs.length) :
    SeesB B w k (.slice (if cap = p then ao else ao.map (·.add p)) (zs.length - p) (cap - p)) (zs.drop p) := by
  have := h.cut p (zs.length - p) (by omega)
  rwa [List.take_of_length_le (by rw [List.length_drop]; omega)] at this
theorem seesB_empty (B : Nat) (w : World) (k : IntKind) (ao : Option Addr) : SeesB B w k (.slice ao 0 0) [] := ⟨ao, 0, rfl, Nat.le_refl _, fun _ => rfl, fun a _ t ht => by simp at ht⟩

set_option maxHeartbeats 1600000 in
theorem refNums_any (bv : Value) (zs : List Int) (n : Int) (w : World) (hs : Sees w .u8 bv zs) (hby : Byt zs) (hm : zs.length ≤ 1099511627776) (hn1 : n ≤ 9223372036854775807) :
    Calls Try.prog 38 #[bv, .int .i64 n] w fun e w' => ∃ x y, e = .returned (.tuple #[x, y, .int .i64 (nrun zs n.toNat).2.2]) ∧ Sees w' .i64 x (nrun zs n.toNat).1 ∧ Sees w' .u8 y (zs.drop (nrun zs n.toNat).2.1) ∧ Below w.heap.size w w' := by
  obtain ⟨i0, hi, hz0, hz1, hz2⟩ := info_parts Try.info2
  have HS := hide hs
  clear hs
  go_enter Try.func38, Try.ntmps38
  go_wp2
  go_loopw [7, 8, 9] (fun vl vr vi wr => ∃ j : Nat, j ≤ n.toNat ∧ vi = .int .i64 j ∧ (nrun zs j).2.2 = 0 ∧ wr.ownsRow w.heap.size 2 1 vl j (ints .i64 (nrun zs j).1) ∧ SeesB w.heap.size wr .u8 vr (zs.drop (nrun zs j).2.1) ∧ Below w.heap.size w wr)
    (fun _ _ vi _ => n.toNat - (intOf vi).toNat)
  case atStart => exact ⟨0, Nat.zero_le _, rfl, rfl, World.ownsRow_nil _ _ _ _, HS.out.upto, Below.refl _ _⟩
  case round =>
    obtain ⟨j, hj, rfl, hz, hownr, hsr, hnx⟩ := hrel
    have hsz := hnx.size
    have hle := nrun_le zs j
    by_cases hlt : (j : Int) < n
    · have hstep : nrun zs (j + 1) = if (tn (zs.drop (nrun zs j).2.1)).2.2 ≠ 0 then ([], 0, (tn (zs.drop (nrun zs j).2.1)).2.2) else ((nrun zs j).1 ++ [(tn (zs.drop (nrun zs j).2.1)).1], (nrun zs j).2.1 + (tn (zs.drop (nrun zs j).2.1)).2.1, 0) := by
        simp only [nrun]; rw [if_neg (by simpa using hz)]
      have hjm : j ≤ zs.length := by have := (hle.2.1 hz).2; omega
      have htk := refTake_any u8 (zs.drop (nrun zs j).2.1) wr hsr.sees (hby.drop _) (by rw [List.length_drop]; omega)
      have htl := tn_le (zs.drop (nrun zs j).2.1)
      have hdd := fun q => (List.drop_drop (l := zs) (i := q) (j := (nrun zs j).2.1))
      obtain ⟨L, hL⟩ : ∃ L, zs.drop (nrun zs j).2.1 = L := ⟨_, rfl⟩
      rw [hL] at hstep htk htl hsr hdd
      have hlL : L.length ≤ zs.length := by rw [← hL, List.length_drop]; omega
      generalize tn L = t at *
      obtain ⟨x, k, er⟩ := t
      dsimp only at hstep htk htl
      obtain ⟨aor, capr, hvr, hlcr, hnilr, hcr⟩ := hsr
      have hsr : SeesB w.heap.size wr .u8 (.slice aor L.length capr) L := ⟨aor, capr, rfl, hlcr, hnilr, hcr⟩
      subst hvr
      clear hcr hL hnilr hle
      by_cases her : er = 0
      · subst her
        obtain ⟨hk1, hk2⟩ := htl rfl
        rw [if_neg (by simp)] at hstep
        have hcutL := hsr.drop k hk2
        rw [hdd k] at hcutL
        have hfrm : ∀ w' : World, Below w.heap.size wr w' → SeesB w.heap.size w' .u8 (.slice (if capr = k then aor else aor.map (·.add k)) (L.length - k) (capr - k)) (zs.drop (nrun zs (j + 1)).2.1) := fun w' h => by
          rw [hstep]; exact hcutL.below h (Nat.le_refl _)
        have HF := hide hfrm
        have HT := hide htk
        have HST := hide hstep
        have HZ := hide hz
        clear hfrm htk hstep hz hcutL hdd htl hsr
        by_cases hck : capr = k
        · have hemp : zs.drop (nrun zs (j + 1)).2.1 = [] := by
            have := (unhide HF wr (Below.refl _ _))
            obtain ⟨_, _, hv, _⟩ := this
            simp only [Value.slice.injEq] at hv
            exact List.length_eq_zero_iff.1 (by omega)
          have HEM := hide hemp
          clear hemp
          subst hck
          go_wp2_with (first
            | (go_at_call 71; refine (unhide HT).mono ?_; rintro e w1 ⟨rfl, rfl⟩)
            | (at_builtin; refine wpList_append_own _ rfl _ _ 70 rfl w.heap.size 2 i0 (.int .i64 0) 1 8 Try.underlying70 hi hz0 hz1 hz2 rfl (by decide) _ _ _ rfl (hownr.alloc _) ⟨wr.heap.size, 0, none⟩ 1 1 [.int .i64 x] rfl rfl ?c1 ?c2 ?c3 ?c4 ?c5 ?_))
          case c1 => exact cell_one_new _ _ _
          case c2 => intro y hy; simp at hy; subst hy; rfl
          case c3 => unfold maxLen; omega
          case c4 => omega
          case c5 => simp; omega
          intro v' w2 hown' hgrow _
          have hbr : Below w.heap.size wr w2 := ((Below.refl _ _).alloc (by omega) _).grown hgrow (by simp; omega) (own_block_le hownr)
          have ho2 : w2.ownsRow w.heap.size 2 1 v' (j + 1) (ints .i64 (nrun zs (j + 1)).1) := by
            rw [HST.out]; simp only [ints_append, ints_one]; exact hown'
          have hz2' : (nrun zs (j + 1)).2.2 = 0 := by rw [HST.out]
          have HZ2 := hide hz2'
          have HF2 := hide (show SeesB w.heap.size w2 .u8 (.slice aor 0 0) (zs.drop (nrun zs (j + 1)).2.1) by rw [HEM.out]; exact seesB_empty _ _ _ _)
          clear hown' hgrow hownr hz2' HF
          go_wp2
          go_roundw
          case rel => exact ⟨j + 1, by omega, by go_num, HZ2.out, ho2, HF2.out, hnx.trans hbr⟩
          case measure => simp [intOf]; omega
        · rw [if_neg hck] at HF
          go_wp2_with (first
            | (go_at_call 71; refine (unhide HT).mono ?_; rintro e w1 ⟨rfl, rfl⟩)
            | (at_builtin; refine wpList_append_own _ rfl _ _ 70 rfl w.heap.size 2 i0 (.int .i64 0) 1 8 Try.underlying70 hi hz0 hz1 hz2 rfl (by decide) _ _ _ rfl (hownr.alloc _) ⟨wr.heap.size, 0, none⟩ 1 1 [.int .i64 x] rfl rfl ?c1 ?c2 ?c3 ?c4 ?c5 ?_))
          case c1 => exact cell_one_new _ _ _
          case c2 => intro y hy; simp at hy; subst hy; rfl
          case c3 => unfold maxLen; omega
          case c4 => omega
          case c5 => simp; omega
          intro v' w2 hown' hgrow _
          have hbr : Below w.heap.size wr w2 := ((Below.refl _ _).alloc (by omega) _).grown hgrow (by simp; omega) (own_block_le hownr)
          have ho2 : w2.ownsRow w.heap.size 2 1 v' (j + 1) (ints .i64 (nrun zs (j + 1)).1) := by
            rw [HST.out]; simp only [ints_append, ints_one]; exact hown'
          have hz2' : (nrun zs (j + 1)).2.2 = 0 := by rw [HST.out]
          have HZ2 := hide hz2'
          have HF2 := hide (unhide HF w2 hbr)
          clear hown' hgrow hownr hz2' HF
          go_wp2
          go_roundw
          case rel => exact ⟨j + 1, by omega, by go_num, HZ2.out, ho2, HF2.out, hnx.trans hbr⟩
          case measure => simp [intOf]; omega
      · have hef : (er != 0) = true := by rw [bne_iff_ne]; exact her
        rw [if_pos her] at hstep
        have hfin : nrun zs n.toNat = ([], 0, er) := by
          rw [nrun_stuck _ (j + 1) (by rw [hstep]; exact her) _ (by omega), hstep]
        have HFN := hide hfin
        have HT := hide htk
        clear htk hfin hstep hz her htl hdd hsr hownr
        go_wp2_with (go_at_call 71; refine (unhide HT).mono ?_; rintro e w1 ⟨rfl, rfl⟩)
        go_ret3
        rw [HFN.out]
        exact ⟨_, _, rfl, Sees.nil _ _, HS.out.below hnx, hnx⟩
    · have hjn : j = n.toNat := by omega
      subst hjn
      have HZ := hide hz
      clear hz hle
      go_wp2
      go_ret3
      rw [HZ.out]
      exact ⟨_, _, rfl, (sees_of_own hownr).2, hsr.sees, hnx⟩

end Go.Proofs.Ytiijbklaapaheaa
