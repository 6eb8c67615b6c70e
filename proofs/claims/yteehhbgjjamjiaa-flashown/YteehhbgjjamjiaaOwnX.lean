/- FlashOwn's walk where there are too many bytes. -/
import Derived.Test.YteehhbgjjamjiaaOwnW
namespace Go.Proofs.Yteehhbgjjamjiaa
open Go.RowKit

set_option maxRecDepth 100000 in
set_option maxHeartbeats 3200000 in
theorem flashOwn_long (ao : Option Addr) (cp gb ob : Nat) (zs : List Int) (w : World) (hs : Sees w .u8 (.slice ao zs.length cp) zs) (hby : Byt zs) (hao : 0 < zs.length → ao = some ⟨gb, ob, none⟩) (hfr : ∀ t, t < zs.length → w.frozen? ⟨gb, ob + t, none⟩ = false) (hl : 256 < zs.length) (hm : zs.length ≤ 140737488355328) :
    Calls Try.prog 6 #[.slice ao zs.length cp] w fun e w' => e = .returned (.bool true) ∧ Below w.heap.size w w' := by
  have hlc : zs.length ≤ cp := by obtain ⟨_, _, e, h1, _⟩ := hs; simp at e; omega
  have HS : Hid (∀ w', Below w.heap.size w w' → Sees w' .u8 (.slice ao zs.length cp) zs) := fun w' hb => hs.below hb
  have hcell0 : ∀ t, t < zs.length → w.cell? ⟨gb, ob + t, none⟩ = some (own zs t) := by
    intro t ht
    obtain ⟨ao', cp', e, _, _, hc⟩ := hs
    have := hao (by omega)
    subst this
    simp only [Value.slice.injEq, true_and] at e
    have hh := hc ⟨gb, ob, none⟩ e.1.symm t ht
    have hadd : (⟨gb, ob, none⟩ : Addr).add t = ⟨gb, ob + t, none⟩ := by unfold Addr.add; split <;> simp_all
    rw [hadd] at hh
    exact hh
  have HC := hide hcell0
  have HFR := hide hfr
  have HAO := hide hao
  clear hs hcell0 hfr hao
  go_enter Try.func6, Try.ntmps6
  go_wp2_with fail
  refine (new_ok 1 w (by omega) (by omega)).mono ?_
  rintro e w1 ⟨g, h, cap, rfl, hI1, hb1, hg, hh⟩
  have hgl := hI1.glt
  have hhl := hI1.hlt
  have HI1 := hide hI1
  have HB1 := hide hb1
  clear hI1 hb1
  go_wp2_with fail
  refine (begun_any w1).mono ?_
  rintro e w2 ⟨rfl, hb2⟩
  have HI2 := hide ((unhide HI1).below hb2)
  have HB2 := hide ((unhide HB1).trans (hb2.mono (unhide HB1).size))
  have hs12 := hb2.size
  clear hb2
  go_wp2_with fail
  refine (clone_any _ zs w2 (unhide HS w2 (unhide HB2)) (by omega)).mono ?_
  rintro e w3 ⟨x1, rfl, hx1, hb3⟩
  have HX1 := hide (own_seesR hx1)
  have HI3 := hide ((unhide HI2).below hb3)
  have HB3 := hide ((unhide HB2).trans (hb3.mono (unhide HB2).size))
  have hs23 := hb3.size
  clear hb3 hx1
  go_wp2_with fail
  refine (prog_long (F := Fl.blank 1) (unhide HI3) rfl 0 0 (by decide) (by decide) ao zs.length cp hl).mono ?_
  rintro e w4 ⟨rfl, hb4⟩
  have HI4 : Hid (IsFl w4 g h cap (Fl.blank 1)) := (unhide HI3).below hb4
  have hb01 := (unhide HB1).size
  have HB4 := hide ((unhide HB3).trans (hb4.mono (by omega)))
  have HX4 := hide ((unhide HX1).below hb4 (Nat.le_refl _))
  have hs34 := hb4.size
  clear hb4 HX1 HI1 HI2 HI3 HB1 HB2 HB3
  go_wp2_with fail
  refine (read_not (F := Fl.blank 1) (unhide HI4) rfl 0 0 (by decide) (by decide) (by decide)).mono ?_
  rintro e w5 ⟨he, rfl⟩
  obtain rfl : e = Ending.returned (.tuple #[.slice none 0 0, .int .i64 21]) := he
  go_wp2
  refine wp_loop_rounds 1 ?_
  rw [rounds_succ]
  go_wp2_with fail
  refine (clone_any _ zs w4 (unhide HS w4 (unhide HB4)) (by omega)).mono ?_
  rintro e w7 ⟨x2, rfl, hx2, hb7⟩
  have HX7 := hide ((unhide HX4).below hb7 (by omega))
  have HY7 := hide (own_seesR hx2)
  have HI7 := hide ((unhide HI4).below hb7)
  have HB7 := hide ((unhide HB4).trans (hb7.mono (by omega)))
  have hs67 := hb7.size
  have HC7 : Hid (∀ t, t < zs.length → w7.cell? ⟨gb, ob + t, none⟩ = some (own zs t) ∧ w7.frozen? ⟨gb, ob + t, none⟩ = false ∧ gb < w.heap.size) := by
    intro t ht
    have h1 := unhide HC t ht
    have h2 := World.block_lt_of_cell? w _ h1
    exact ⟨((unhide HB7).cell (p := ⟨gb, ob + t, none⟩) h2).trans h1, ((unhide HB7).frozen (p := ⟨gb, ob + t, none⟩) h2).trans (unhide HFR t ht), h2⟩
  clear hb7 hx2 HX4 HI4 HB4
  go_wp2
  go_loopw [54] (fun c wr => ∃ k : Nat, k ≤ zs.length ∧ c = .int .i64 k ∧ Turned w7 wr gb ob k (inc zs)) (fun c _ => zs.length - (intOf c).toNat)
  case atStart => exact ⟨0, by omega, rfl, Turned.zero _ _ _ _⟩
  case round =>
    obtain ⟨k, hk, rfl, htn⟩ := hrel
    by_cases hlt : k < zs.length
    · obtain ⟨c1, c2, c3⟩ := unhide HC7 k hlt
      obtain rfl := unhide HAO (by omega)
      have r1 := htn.rest c1 (Nat.le_refl _)
      have r2 := (htn.frozen c1).trans c2
      have HT := hide htn.succ
      have hz := hby.get k
      unfold own at r1
      obtain ⟨z, hzz⟩ : ∃ z, zs.getD k 0 = z := ⟨_, rfl⟩
      have HZ := hide hzz
      rw [hzz] at r1 hz
      obtain ⟨hz0, hz1⟩ := hz
      clear htn c1 c2 c3 hzz
      go_wp2
      go_roundw
      case rel => exact ⟨k + 1, by omega, by go_num, by have := unhide HT; unfold inc at this; rw [unhide HZ] at this; exact this⟩
      case measure => simp [intOf]; omega
    · obtain rfl : k = zs.length := by omega
      have hTU := htn.1
      have hgbl : ∀ x, (x = gb ∧ 0 < zs.length) → x < w.heap.size := by rintro x ⟨rfl, h0⟩; exact (unhide HC7 0 h0).2.2
      have hsw7 := (unhide HB7).size
      have HI8 := hide ((unhide HI7).upd hTU (Nat.le_refl _) (fun c => by have := hgbl g c; omega) (fun c => by have := hgbl h c; omega))
      have HX8 := hide ((unhide HX7).upd hTU (by omega) (fun k h1 _ c => by have := hgbl k c; omega))
      have HY8 := hide ((unhide HY7).upd hTU (Nat.le_refl _) (fun k h1 _ c => by have := hgbl k c; omega))
      have hs78 := hTU.size
      have HT8 := hide htn
      clear hTU htn HI7 HX7 HY7
      go_wp2_with fail
      refine (read_not (F := Fl.blank 1) (unhide HI8) rfl 0 0 (by decide) (by decide) (by decide)).mono ?_
      rintro e w9 ⟨he, hw9⟩
      obtain rfl : e = Ending.returned (.tuple #[.slice none 0 0, .int .i64 21]) := he
      have hb9 : Below wr.heap.size wr w9 := hw9 ▸ Below.refl wr.heap.size wr
      clear hw9
      have HX9 := hide ((unhide HX8).below hb9 (by omega))
      have HY9 := hide ((unhide HY8).below hb9 (by omega))
      have hs89 := hb9.size
      have HC9 : Hid (∀ t, t < zs.length → w9.cell? ⟨gb, ob + t, none⟩ = some (inc zs t) ∧ w9.frozen? ⟨gb, ob + t, none⟩ = false ∧ w9.heap[gb]? = wr.heap[gb]?) := by
        intro t ht
        obtain ⟨c1, c2, c3⟩ := unhide HC7 t ht
        have d1 := (unhide HT8).done c1 ht
        have d2 := ((unhide HT8).frozen c1).trans c2
        exact ⟨(hb9.cell (p := ⟨gb, ob + t, none⟩) (by show gb < _; omega)).trans d1, (hb9.frozen (p := ⟨gb, ob + t, none⟩) (by show gb < _; omega)).trans d2, hb9.block gb (by omega)⟩
      have HB9 := hide hb9
      clear hb9 HI8 HX8 HY8
      go_wp2
      go_loopw [71] (fun c wr => ∃ k : Nat, k ≤ zs.length ∧ c = .int .i64 k ∧ Turned w9 wr gb ob k (own zs)) (fun c _ => zs.length - (intOf c).toNat)
      case atStart => exact ⟨0, by omega, rfl, Turned.zero _ _ _ _⟩
      case round =>
        obtain ⟨k, hk, rfl, htn⟩ := hrel
        by_cases hlt : k < zs.length
        · obtain ⟨c1, c2, c3⟩ := unhide HC9 k hlt
          obtain rfl := unhide HAO (by omega)
          have r1 := htn.rest c1 (Nat.le_refl _)
          have r2 := (htn.frozen c1).trans c2
          have HT := hide htn.succ
          have hz := hby.get k
          unfold inc at r1
          obtain ⟨z, hzz⟩ : ∃ z, zs.getD k 0 = z := ⟨_, rfl⟩
          have HZ := hide hzz
          rw [hzz] at r1 hz
          obtain ⟨hz0, hz1⟩ := hz
          obtain ⟨y1, hy1⟩ : ∃ y1, (z + 1) % 256 = y1 := ⟨_, rfl⟩
          have HY1 := hide hy1
          have hy10 : 0 ≤ y1 := by omega
          have hy11 : y1 ≤ 255 := by omega
          rw [hy1] at r1
          clear htn c1 c2 c3 hzz hy1
          go_wp2
          go_roundw
          case rel =>
            refine ⟨k + 1, by omega, by go_num, ?_⟩
            have := unhide HT
            unfold own at this
            rw [unhide HZ] at this
            have e1 := unhide HY1
            have e2 : (y1 - 1) % 256 = z := by omega
            rw [e2]
            exact this
          case measure => simp [intOf]; omega
        · obtain rfl : k = zs.length := by omega
          have hTU := htn.1
          have HB10 := hide (below_back (unhide HB7) (unhide HT8) (unhide HB9) htn (fun t ht => (unhide HC7 t ht).1) (fun h0 => (unhide HC7 0 h0).2.2))
          have HX10 := hide ((unhide HX9).upd hTU (by omega) (fun k h1 _ c => by have := hgbl k c; omega)).1
          have HY10 := hide ((unhide HY9).upd hTU (by omega) (fun k h1 _ c => by have := hgbl k c; omega)).1
          have HE1 := hide (equal_same (unhide HX10) (unhide HY10) hby)
          have HE2 := hide (equal_same (unhide HX10) (unhide HS _ (unhide HB10)) hby)
          clear hTU htn HT8 HB9 HC9 HX9 HY9 HB7 HC7
          go_wp2_with fail
          refine (unhide HE1).mono ?_
          rintro e w11 ⟨rfl, rfl⟩
          go_wp2_with fail
          refine (unhide HE2).mono ?_
          rintro e w11 ⟨rfl, rfl⟩
          go_wp2
          go_ret
          exact ⟨rfl, unhide HB10⟩

end Go.Proofs.Yteehhbgjjamjiaa
