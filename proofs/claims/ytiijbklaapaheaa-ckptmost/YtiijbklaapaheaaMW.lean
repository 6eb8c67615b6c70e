/- CkptMost: the walk. -/
import Derived.Test.YtiijbklaapaheaaCZ
import Derived.Test.YtiijbklaapaheaaKA
import Derived.Test.YtiijbklaapaheaaKE
import Derived.Test.YtiijbklaapaheaaEA
namespace Go.Proofs.Ytiijbklaapaheaa
open Go.RowKit
set_option maxRecDepth 100000

/-- What Save answers on a blank flash of eight blocks, of data that were cut to Most. -/
theorem most_save (f b slot last : Int) (ds : List Int) (L : Nat) (hL : (L : Int) = min (ds.length : Int) (max 0 (mst b))) :
    (sav (Fl.blank 8) f b (slot % 1099511627776) (last % 1099511627776) (ds.take L)).1 = regE 8 f b := by
  by_cases hr : regE 8 f b = 0
  · rw [hr]
    obtain ⟨f', b', rfl, rfl, hb2, hfb⟩ := regE_is hr (by decide)
    have hm : mst (b' : Int) ≤ (b' : Int) / 2 * 4096 - 64 ∧ mst (b' : Int) ≤ 524288 := by
      rw [mst, if_neg (by omega)]; omega
    have hlen : (ds.take L).length = L := by simp; omega
    refine sav_blank (by decide) hr ?_ ?_
    · unfold faultE
      rw [if_pos ⟨by decide, by decide, by rw [isC_iff]; omega, by rw [isC_iff]; omega⟩, if_pos (by rw [hlen]; omega)]
    · have := ckB_le 1 (slot % 1099511627776) (last % 1099511627776) (ds.take L)
      rw [hlen] at this
      rw [Int.toNat_natCast]
      omega
  · unfold sav
    rw [if_pos (show regE (Fl.blank 8).n f b ≠ 0 from hr)]
    rfl

theorem tail_helper {G ZF : World → Prop} {goal : Prop} (main : (∀ Z, ZF Z → G Z) → goal) (tail : ∀ Z, ZF Z → G Z) : goal := main tail

set_option maxHeartbeats 3200000 in
theorem most_walk (f b slot last : Int) (ao : Option Addr) (cap : Nat) (ds : List Int) (w : World) (hd : Sees w .u8 (.slice ao ds.length cap) ds) (hdb : Byt ds) (hdl : ds.length ≤ 9223372036854775807) (hf : f ≤ 9223372036854775807) (hb0 : -9223372036854775808 ≤ b) (hb1 : b ≤ 9223372036854775807)
    (HBG : ∀ w : World, Calls Try.prog 12 #[] w fun e w' => e = .returned (.bool true) ∧ Below w.heap.size w w') :
    Calls Try.prog 6 #[.agg #[.int .i64 f, .int .i64 b], .agg #[.int .i64 slot, .int .i64 last, .slice ao ds.length cap]] w fun e w' => e = .returned (.bool true) ∧ Below w.heap.size w w' := by
  obtain ⟨B, hB⟩ : ∃ B, (w.alloc (.cells #[.int .i64 f, .int .i64 b] 26)).alloc (.cells #[.int .i64 slot, .int .i64 last, .slice ao ds.length cap] 24) = B := ⟨_, rfl⟩
  have HBB : Hid (Below w.heap.size w B) := hB ▸ ((Below.refl _ _).alloc (Nat.le_refl _) _).alloc (by simp) _
  have HSZ : Hid (B.heap.size = w.heap.size + 2) := by show _ = _; rw [← hB]; simp
  have HBX : Hid (∀ x, Below B.heap.size B x → (x.cell? ⟨w.heap.size, 0, none⟩ = some (.int .i64 f) ∧ x.cell? ⟨w.heap.size, 1, none⟩ = some (.int .i64 b)) ∧ (x.cell? ⟨w.heap.size + 1, 0, none⟩ = some (.int .i64 slot) ∧ x.cell? ⟨w.heap.size + 1, 1, none⟩ = some (.int .i64 last) ∧ x.cell? ⟨w.heap.size + 1, 2, none⟩ = some (.slice ao ds.length cap)) ∧ ∀ o, x.frozen? ⟨w.heap.size + 1, o, none⟩ = false) := fun x hx => by
    have hs := unhide HSZ
    have c : ∀ b o, b < w.heap.size + 2 → x.cell? ⟨b, o, none⟩ = B.cell? ⟨b, o, none⟩ := fun b o hb => hx.cell (p := ⟨b, o, none⟩) (by show b < _; omega)
    have d : ∀ b o, b < w.heap.size + 2 → x.frozen? ⟨b, o, none⟩ = B.frozen? ⟨b, o, none⟩ := fun b o hb => World.frozen?_of_block (w := B) (hx.block b (by omega))
    refine ⟨⟨?_, ?_⟩, ⟨?_, ?_, ?_⟩, fun o => ?_⟩
    · rw [c _ _ (by omega), ← hB]; simp [go_sem, World.cell?_alloc_old]
    · rw [c _ _ (by omega), ← hB]; simp [go_sem, World.cell?_alloc_old]
    · rw [c _ _ (by omega), ← hB]; simp [go_sem]
    · rw [c _ _ (by omega), ← hB]; simp [go_sem]
    · rw [c _ _ (by omega), ← hB]; simp [go_sem]
    · rw [d _ _ (by omega), ← hB]; simp [go_sem]
  have HBG := hide HBG
  obtain ⟨L, hL⟩ : ∃ L : Nat, (L : Int) = min (ds.length : Int) (max 0 (mst b)) := ⟨(min (ds.length : Int) (max 0 (mst b))).toNat, by omega⟩
  have HSV := hide (most_save f b slot last ds L hL)
  have hLd : L ≤ ds.length := by omega
  have hlen : (ds.take L).length = L := by simp; omega
  have HTS : Hid (∀ x : World, Below w.heap.size w x → Sees x .u8 (.slice ao L cap) (ds.take L)) := fun x hx => by have := sees_take (hd.below hx) L hLd; rw [hlen] at this; exact this
  have HTB : Hid (Byt (ds.take L)) := fun b hb => hdb b (List.mem_of_mem_take hb)
  have hcap : ds.length ≤ cap := by obtain ⟨_, _, e, h1, _⟩ := hd; simp only [Value.slice.injEq, true_and] at e; rw [e.2]; exact h1
  clear hd
  have hmax : (if mst b > 0 then mst b else 0) = max 0 (mst b) := by split <;> omega
  have hmin : (if max 0 (mst b) < (ds.length : Int) then max 0 (mst b) else (ds.length : Int)) = (L : Int) := by split <;> omega
  have hLc : (L : Int) ≤ (cap : Int) := by omega
  have hmin2 := hL.symm
  clear hL hmin hmax
  have HR5 : Hid (regE 8 f b = 0 ∨ (regE 8 f b = 1 ∧ b < 2) ∨ (regE 8 f b = 1 ∧ 2 ≤ b ∧ b.tmod 2 ≠ 0 ∧ b % 2 = 1) ∨ (regE 8 f b = 1 ∧ 2 ≤ b ∧ b.tmod 2 = 0 ∧ f < 0) ∨ (regE 8 f b = 1 ∧ 2 ≤ b ∧ b.tmod 2 = 0 ∧ 0 ≤ f ∧ 8 - b < f)) := by
    by_cases hr : regE 8 f b = 0
    · exact Or.inl hr
    right
    have h1 : regE 8 f b = 1 := by unfold regE at hr ⊢; split at hr; · rename_i c; rw [if_pos c]
                                   · exact absurd rfl hr
    have hc : f < 0 ∨ b < 2 ∨ b % 2 ≠ 0 ∨ (8 : Int) - f < b := by
      unfold regE at h1
      split at h1
      · rename_i c; exact c
      · cases h1
    have htm : 2 ≤ b → b.tmod 2 = b % 2 := fun h => Int.tmod_eq_emod_of_nonneg (by omega)
    by_cases c1 : b < 2
    · exact Or.inl ⟨h1, c1⟩
    right
    rw [htm (by omega)]
    by_cases c2 : b % 2 = 0
    · right
      by_cases c3 : f < 0
      · exact Or.inl ⟨h1, by omega, c2, c3⟩
      · exact Or.inr ⟨h1, by omega, c2, by omega, by omega⟩
    · exact Or.inl ⟨h1, by omega, c2, by omega⟩
  go_enter Try.func6, Try.ntmps6
  go_wp2_with (first | rw [hB] | fail)
  refine (new_ok 8 B (by decide) (by decide)).mono ?_
  rintro e w1 ⟨g, h, fc, rfl, i1, b1, hg, hh⟩
  have HI1 := hide i1
  have HB1 := hide b1
  clear i1 b1
  go_wp2_with fail
  refine (unhide HBG w1).mono ?_
  rintro e w2 ⟨rfl, b2⟩
  have HI2 := hide ((unhide HI1).below b2)
  have HB2 : Hid (Below B.heap.size B w2) := (unhide HB1).trans (b2.mono (unhide HB1).size)
  clear b2 HI1 HB1
  obtain ⟨⟨q0, q1⟩, ⟨q2, q3, q4⟩, q5⟩ := unhide HBX w2 (unhide HB2)
  have ha1 := and40 slot
  have ha2 := and40 last
  obtain ⟨Y, hY⟩ : ∃ Y, (w2.setCell ⟨w.heap.size + 1, 0, none⟩ (.int .i64 (slot % 1099511627776))).setCell ⟨w.heap.size + 1, 1, none⟩ (.int .i64 (last % 1099511627776)) = Y := ⟨_, rfl⟩
  have HYX : Hid (∀ x, Below Y.heap.size Y x → (x.cell? ⟨w.heap.size, 0, none⟩ = some (.int .i64 f) ∧ x.cell? ⟨w.heap.size, 1, none⟩ = some (.int .i64 b)) ∧ (x.cell? ⟨w.heap.size + 1, 0, none⟩ = some (.int .i64 (slot % 1099511627776)) ∧ x.cell? ⟨w.heap.size + 1, 1, none⟩ = some (.int .i64 (last % 1099511627776)) ∧ x.cell? ⟨w.heap.size + 1, 2, none⟩ = some (.slice ao ds.length cap)) ∧ ∀ o, x.frozen? ⟨w.heap.size + 1, o, none⟩ = false) := fun x hx => by
    have hsz : w.heap.size + 2 ≤ Y.heap.size := by have := (unhide HB2).size; have := unhide HSZ; rw [← hY]; simp [World.setCell]; omega
    have c : ∀ b o, b < w.heap.size + 2 → x.cell? ⟨b, o, none⟩ = Y.cell? ⟨b, o, none⟩ := fun b o hb => hx.cell (p := ⟨b, o, none⟩) (by show b < _; omega)
    have d : ∀ b o, b < w.heap.size + 2 → x.frozen? ⟨b, o, none⟩ = Y.frozen? ⟨b, o, none⟩ := fun b o hb => World.frozen?_of_block (w := Y) (hx.block b (by omega))
    refine ⟨⟨?_, ?_⟩, ⟨?_, ?_, ?_⟩, fun o => ?_⟩
    · rw [c _ _ (by omega), ← hY, cs_other (addr_ne (Or.inl (by omega))), cs_other (addr_ne (Or.inl (by omega)))]; exact q0
    · rw [c _ _ (by omega), ← hY, cs_other (addr_ne (Or.inl (by omega))), cs_other (addr_ne (Or.inl (by omega)))]; exact q1
    · rw [c _ _ (by omega), ← hY, cs_other (addr_ne (Or.inr (by decide)))]; exact cs_same q2
    · rw [c _ _ (by omega), ← hY]; exact cs_same (by rw [cs_other (addr_ne (Or.inr (by decide)))]; exact q3)
    · rw [c _ _ (by omega), ← hY, cs_other (addr_ne (Or.inr (by decide))), cs_other (addr_ne (Or.inr (by decide)))]; exact q4
    · rw [d _ _ (by omega), ← hY, World.frozen?_setCell, World.frozen?_setCell]; exact q5 o
  have hgs := (unhide HB2).size
  have hsz0 := unhide HSZ
  have HBY : Hid (Below w.heap.size w Y) := hY ▸ (((unhide HBB).trans ((unhide HB2).mono (unhide HBB).size)).setCell (p := ⟨w.heap.size + 1, 0, none⟩) (by show w.heap.size ≤ w.heap.size + 1; omega) _).setCell (p := ⟨w.heap.size + 1, 1, none⟩) (by show w.heap.size ≤ w.heap.size + 1; omega) _
  have HIY : Hid (IsFl Y g h fc (Fl.blank 8)) := hY ▸ ((unhide HI2).other (w.heap.size + 1) 0 _ (by omega) (by omega)).other (w.heap.size + 1) 1 _ (by omega) (by omega)
  have HGH : Hid (w.heap.size + 2 ≤ g ∧ w.heap.size + 2 ≤ h) := ⟨by omega, by omega⟩
  have HTL : Hid (∀ x, Below Y.heap.size Y x → ((x.setCell ⟨w.heap.size + 1, 2, none⟩ (.slice ao L cap)).cell? ⟨w.heap.size, 0, none⟩ = some (.int .i64 f) ∧ (x.setCell ⟨w.heap.size + 1, 2, none⟩ (.slice ao L cap)).cell? ⟨w.heap.size, 1, none⟩ = some (.int .i64 b)) ∧
      ((x.setCell ⟨w.heap.size + 1, 2, none⟩ (.slice ao L cap)).cell? ⟨w.heap.size, 0, none⟩ = some (.int .i64 f) ∧ (x.setCell ⟨w.heap.size + 1, 2, none⟩ (.slice ao L cap)).cell? ⟨w.heap.size, 1, none⟩ = some (.int .i64 b) ∧ (x.setCell ⟨w.heap.size + 1, 2, none⟩ (.slice ao L cap)).cell? ⟨w.heap.size + 1, 0, none⟩ = some (.int .i64 (slot % 1099511627776)) ∧
        (x.setCell ⟨w.heap.size + 1, 2, none⟩ (.slice ao L cap)).cell? ⟨w.heap.size + 1, 1, none⟩ = some (.int .i64 (last % 1099511627776)) ∧ (x.setCell ⟨w.heap.size + 1, 2, none⟩ (.slice ao L cap)).cell? ⟨w.heap.size + 1, 2, none⟩ = some (.slice ao L cap) ∧
        Calls Try.prog 18 #[P0 h, .agg #[.int .i64 f, .int .i64 b], .agg #[.int .i64 (slot % 1099511627776), .int .i64 (last % 1099511627776), .slice ao L cap]] (x.setCell ⟨w.heap.size + 1, 2, none⟩ (.slice ao L cap)) fun e w' => e = .returned (.int .i64 (regE 8 f b)) ∧ w'.cell? ⟨w.heap.size, 0, none⟩ = some (.int .i64 f) ∧ w'.cell? ⟨w.heap.size, 1, none⟩ = some (.int .i64 b) ∧ Below w.heap.size w w')) := fun x hx => by
    obtain ⟨⟨p0, p1⟩, ⟨p2, p3, p4⟩, p5⟩ := unhide HYX x hx
    have e0 : (x.setCell ⟨w.heap.size + 1, 2, none⟩ (.slice ao L cap)).cell? ⟨w.heap.size, 0, none⟩ = some (.int .i64 f) := by rw [cs_other (addr_ne (Or.inl (by omega)))]; exact p0
    have e1 : (x.setCell ⟨w.heap.size + 1, 2, none⟩ (.slice ao L cap)).cell? ⟨w.heap.size, 1, none⟩ = some (.int .i64 b) := by rw [cs_other (addr_ne (Or.inl (by omega)))]; exact p1
    refine ⟨⟨e0, e1⟩, e0, e1, ?_, ?_, cs_same p4, ?_⟩
    · rw [cs_other (addr_ne (Or.inr (by decide)))]; exact p2
    · rw [cs_other (addr_ne (Or.inr (by decide)))]; exact p3
    have hI : IsFl (x.setCell ⟨w.heap.size + 1, 2, none⟩ (.slice ao L cap)) g h fc (Fl.blank 8) := ((unhide HIY).below hx).other (w.heap.size + 1) 2 _ (by omega) (by omega)
    have hBw : Below w.heap.size w (x.setCell ⟨w.heap.size + 1, 2, none⟩ (.slice ao L cap)) := ((unhide HBY).trans (hx.mono (unhide HBY).size)).setCell (p := ⟨w.heap.size + 1, 2, none⟩) (by show w.heap.size ≤ w.heap.size + 1; omega) _
    generalize x.setCell ⟨w.heap.size + 1, 2, none⟩ (.slice ao L cap) = Z at hI hBw e0 e1 ⊢
    have hgl := hI.glt
    have hv := unhide HTS Z hBw
    have hsv := save_all hI (Int.le_refl 0) (by show (0 : Int) ≤ _; decide) (sm_blank 8).hP f b hf (slot % 1099511627776) (last % 1099511627776) ao cap (ds.take L) (by rw [hlen]; exact hv) (unhide HTB) (by rw [hlen]; omega)
    rw [hlen] at hsv
    refine hsv.mono ?_
    rintro e w5 ⟨rfl, i5, u5⟩
    refine ⟨by rw [unhide HSV], ?_, ?_, hBw.trans (u5.below hBw.size (fun k hk => by show ¬ (k = g ∨ k = h); omega))⟩
    · rw [u5.cell (p := ⟨w.heap.size, 0, none⟩) (by show w.heap.size < _; omega) (by show ¬ (w.heap.size = g ∨ w.heap.size = h); omega)]; exact e0
    · rw [u5.cell (p := ⟨w.heap.size, 1, none⟩) (by show w.heap.size < _; omega) (by show ¬ (w.heap.size = g ∨ w.heap.size = h); omega)]; exact e1
  clear hgs hsz0 hg hh HI2
  go_wp2_with (first | rw [ha1, ha2, hY] | fail)
  clear q0 q1 q2 q3 q4 q5
  obtain ⟨⟨q0, q1⟩, ⟨q2, q3, q4⟩, q5⟩ := unhide HYX Y.drew (Below.refl _ _).drew
  apply tail_helper (ZF := fun Z => Z.cell? ⟨w.heap.size, 0, none⟩ = some (.int .i64 f) ∧ Z.cell? ⟨w.heap.size, 1, none⟩ = some (.int .i64 b) ∧ Z.cell? ⟨w.heap.size + 1, 0, none⟩ = some (.int .i64 (slot % 1099511627776)) ∧ Z.cell? ⟨w.heap.size + 1, 1, none⟩ = some (.int .i64 (last % 1099511627776)) ∧ Z.cell? ⟨w.heap.size + 1, 2, none⟩ = some (.slice ao L cap) ∧ Calls Try.prog 18 #[P0 h, .agg #[.int .i64 f, .int .i64 b], .agg #[.int .i64 (slot % 1099511627776), .int .i64 (last % 1099511627776), .slice ao L cap]] Z fun e w' => e = .returned (.int .i64 (regE 8 f b)) ∧ w'.cell? ⟨w.heap.size, 0, none⟩ = some (.int .i64 f) ∧ w'.cell? ⟨w.heap.size, 1, none⟩ = some (.int .i64 b) ∧ Below w.heap.size w w')
  intro TAIL
  have HTAIL := hide TAIL
  clear TAIL
  refine wp_region_held_drew (S := fun x => x.cell? ⟨w.heap.size, 0, none⟩ = some (.int .i64 f) ∧ x.cell? ⟨w.heap.size, 1, none⟩ = some (.int .i64 b)) (by kernel_rfl) ⟨q0, q1⟩ (fun hHeld => ?_)
  refine wpAnyH_take (i := 0) (v := ?v1x0) rfl (by as_aux_lemma => kernel_rfl) (by as_aux_lemma => kernel_rfl) (by as_aux_lemma => kernel_rfl) (fun _ _ _ h => h) (Or.inl ⟨by rfl, ?hy1x0⟩) (by assumption) ?rest1x0
  case hy1x0 => intro w hSw; obtain ⟨r0, r1⟩ := hSw; go_simp <;> with_reducible rfl
  simp only [Act.put, List.getElem_toArray, List.getElem_cons_zero, List.setIfInBounds_toArray, List.set_cons_zero, List.set_cons_succ]
  refine wpAnyH_take (i := 2) (v := ?v2x2) rfl (by as_aux_lemma => kernel_rfl) (by as_aux_lemma => kernel_rfl) (by as_aux_lemma => kernel_rfl) (fun _ _ _ h => h) (Or.inl ⟨by rfl, ?hy2x2⟩) (by assumption) ?rest2x2
  case hy2x2 => intro w hSw; obtain ⟨r0, r1⟩ := hSw; go_simp <;> with_reducible rfl
  simp only [Act.put, List.getElem_toArray, List.getElem_cons_zero, List.getElem_cons_succ, List.setIfInBounds_toArray, List.set_cons_zero, List.set_cons_succ]
  refine wpAnyH_take (i := 5) (v := (.agg #[.int .i64 f, .int .i64 b])) rfl (by as_aux_lemma => kernel_rfl) (by as_aux_lemma => kernel_rfl) (by as_aux_lemma => kernel_rfl) (fun _ _ _ h => h) (Or.inl ⟨by rfl, ?hy3x5⟩) (by assumption) ?rest3x5
  case hy3x5 => intro w hSw; obtain ⟨r0, r1⟩ := hSw; go_simp <;> with_reducible rfl
  simp only [Act.put, List.getElem_toArray, List.getElem_cons_zero, List.getElem_cons_succ, List.setIfInBounds_toArray, List.set_cons_zero, List.set_cons_succ]
  refine wpAnyH_ready (rs := [1, 3, 6]) (by as_aux_lemma => kernel_rfl) (by simp) ?_
  refine AllReadyH.cons rfl (fun K hK => ?_) (AllReadyH.cons rfl (fun K hK => ?_) (AllReadyH.cons rfl (fun K hK => ?_) AllReadyH.nil))
  · skip
    go_simp
    refine hK _ _ hHeld ?_
    clear hK hHeld
    intro hHeld
    refine wpAnyH_ready (rs := [3, 6]) (by as_aux_lemma => kernel_rfl) (by simp) ?_
    refine AllReadyH.cons rfl (fun K hK => ?_) (AllReadyH.cons rfl (fun K hK => ?_) AllReadyH.nil)
    · skip
      go_simp
      refine hK _ _ hHeld ?_
      clear hK hHeld
      intro hHeld
      refine wpAnyH_take (i := 4) (v := ?v4x4) rfl (by as_aux_lemma => kernel_rfl) (by as_aux_lemma => kernel_rfl) (by as_aux_lemma => kernel_rfl) (fun _ _ _ h => h) (Or.inl ⟨by rfl, ?hy4x4⟩) (by assumption) ?rest4x4
      case hy4x4 => intro w hSw; go_simp <;> with_reducible rfl
      simp only [Act.put, List.getElem_toArray, List.getElem_cons_zero, List.getElem_cons_succ, List.setIfInBounds_toArray, List.set_cons_zero, List.set_cons_succ]
      refine wpAnyH_ready (rs := [6]) (by as_aux_lemma => kernel_rfl) (by simp) ?_
      refine AllReadyH.cons rfl (fun K hK => ?_) AllReadyH.nil
      go_simp
      refine (most_any f b _).mono ?_
      rintro e w3 ⟨rfl, b3⟩
      have HB3 := hide ((Below.refl _ _).drew.trans b3)
      clear b3
      obtain ⟨⟨p0, p1⟩, ⟨p2, p3, p4⟩, p5⟩ := unhide HYX w3 (unhide HB3)
      refine hK _ _ ⟨p0, p1⟩ ?_
      clear hK hHeld
      intro hHeld
      refine wpAnyH_take (i := 7) (v := (.int .i64 (max 0 (mst b)))) rfl (by as_aux_lemma => kernel_rfl) (by as_aux_lemma => kernel_rfl) (by as_aux_lemma => kernel_rfl) (fun _ _ _ h => h) (Or.inl ⟨by rfl, ?hy5x7⟩) (by assumption) ?rest5x7
      case hy5x7 => intro w hSw; go_simp <;> with_reducible rfl
      simp only [Act.put, List.getElem_toArray, List.getElem_cons_zero, List.getElem_cons_succ, List.setIfInBounds_toArray, List.set_cons_zero, List.set_cons_succ]
      refine wpAnyH_take (i := 8) (v := (.int .i64 (L : Int))) rfl (by as_aux_lemma => kernel_rfl) (by as_aux_lemma => kernel_rfl) (by as_aux_lemma => kernel_rfl) (fun _ _ _ h => h) (Or.inl ⟨by rfl, ?hy6x8⟩) (by assumption) ?rest6x8
      case hy6x8 => intro w hSw; go_simp <;> with_reducible rfl
      simp only [Act.put, List.getElem_toArray, List.getElem_cons_zero, List.getElem_cons_succ, List.setIfInBounds_toArray, List.set_cons_zero, List.set_cons_succ]
      refine wpAnyH_take (i := 9) (v := (.slice ao L cap)) rfl (by as_aux_lemma => kernel_rfl) (by as_aux_lemma => kernel_rfl) (by as_aux_lemma => kernel_rfl) (fun _ _ _ h => h) (Or.inl ⟨by rfl, ?hy7x9⟩) (by assumption) ?rest7x9
      case hy7x9 => intro w hSw; go_simp <;> with_reducible rfl
      simp only [Act.put, List.getElem_toArray, List.getElem_cons_zero, List.getElem_cons_succ, List.setIfInBounds_toArray, List.set_cons_zero, List.set_cons_succ]
      refine wpAnyH_take (i := 10) (v := ?v8x10) rfl (by as_aux_lemma => kernel_rfl) (by as_aux_lemma => kernel_rfl) (by as_aux_lemma => kernel_rfl) (fun _ _ _ h => h) (Or.inl ⟨by rfl, ?hy8x10⟩) (by assumption) ?rest8x10
      case hy8x10 => intro w hSw; obtain ⟨r0, r1⟩ := hSw; go_simp <;> with_reducible rfl
      simp only [Act.put, List.getElem_toArray, List.getElem_cons_zero, List.getElem_cons_succ, List.setIfInBounds_toArray, List.set_cons_zero, List.set_cons_succ]
      refine wpAnyH_ready (rs := [11]) (by as_aux_lemma => kernel_rfl) (by simp) ?_
      refine AllReadyH.cons rfl (fun K hK => ?_) AllReadyH.nil
      go_simp
      refine hK _ _ (unhide HTL w3 (unhide HB3)).1 ?_
      clear hK hHeld
      intro _
      refine wpAnyH_done (by as_aux_lemma => kernel_rfl) ?_ _
      have HTW := hide (unhide HTL w3 (unhide HB3)).2
      generalize (w3).setCell ⟨w.heap.size + 1, 2, none⟩ (.slice ao L cap) = Z at HTW ⊢
      exact unhide HTAIL Z (unhide HTW)
    · skip
      go_simp
      refine (most_any f b _).mono ?_
      rintro e w3 ⟨rfl, b3⟩
      have HB3 := hide ((Below.refl _ _).drew.trans b3)
      clear b3
      obtain ⟨⟨p0, p1⟩, ⟨p2, p3, p4⟩, p5⟩ := unhide HYX w3 (unhide HB3)
      refine hK _ _ ⟨p0, p1⟩ ?_
      clear hK hHeld
      intro hHeld
      refine wpAnyH_take (i := 7) (v := (.int .i64 (max 0 (mst b)))) rfl (by as_aux_lemma => kernel_rfl) (by as_aux_lemma => kernel_rfl) (by as_aux_lemma => kernel_rfl) (fun _ _ _ h => h) (Or.inl ⟨by rfl, ?hy9x7⟩) (by assumption) ?rest9x7
      case hy9x7 => intro w hSw; go_simp <;> with_reducible rfl
      simp only [Act.put, List.getElem_toArray, List.getElem_cons_zero, List.getElem_cons_succ, List.setIfInBounds_toArray, List.set_cons_zero, List.set_cons_succ]
      refine wpAnyH_ready (rs := [3]) (by as_aux_lemma => kernel_rfl) (by simp) ?_
      refine AllReadyH.cons rfl (fun K hK => ?_) AllReadyH.nil
      go_simp
      refine hK _ _ hHeld ?_
      clear hK hHeld
      intro hHeld
      refine wpAnyH_take (i := 4) (v := ?v10x4) rfl (by as_aux_lemma => kernel_rfl) (by as_aux_lemma => kernel_rfl) (by as_aux_lemma => kernel_rfl) (fun _ _ _ h => h) (Or.inl ⟨by rfl, ?hy10x4⟩) (by assumption) ?rest10x4
      case hy10x4 => intro w hSw; go_simp <;> with_reducible rfl
      simp only [Act.put, List.getElem_toArray, List.getElem_cons_zero, List.getElem_cons_succ, List.setIfInBounds_toArray, List.set_cons_zero, List.set_cons_succ]
      refine wpAnyH_take (i := 8) (v := (.int .i64 (L : Int))) rfl (by as_aux_lemma => kernel_rfl) (by as_aux_lemma => kernel_rfl) (by as_aux_lemma => kernel_rfl) (fun _ _ _ h => h) (Or.inl ⟨by rfl, ?hy11x8⟩) (by assumption) ?rest11x8
      case hy11x8 => intro w hSw; go_simp <;> with_reducible rfl
      simp only [Act.put, List.getElem_toArray, List.getElem_cons_zero, List.getElem_cons_succ, List.setIfInBounds_toArray, List.set_cons_zero, List.set_cons_succ]
      refine wpAnyH_take (i := 9) (v := (.slice ao L cap)) rfl (by as_aux_lemma => kernel_rfl) (by as_aux_lemma => kernel_rfl) (by as_aux_lemma => kernel_rfl) (fun _ _ _ h => h) (Or.inl ⟨by rfl, ?hy12x9⟩) (by assumption) ?rest12x9
      case hy12x9 => intro w hSw; go_simp <;> with_reducible rfl
      simp only [Act.put, List.getElem_toArray, List.getElem_cons_zero, List.getElem_cons_succ, List.setIfInBounds_toArray, List.set_cons_zero, List.set_cons_succ]
      refine wpAnyH_take (i := 10) (v := ?v13x10) rfl (by as_aux_lemma => kernel_rfl) (by as_aux_lemma => kernel_rfl) (by as_aux_lemma => kernel_rfl) (fun _ _ _ h => h) (Or.inl ⟨by rfl, ?hy13x10⟩) (by assumption) ?rest13x10
      case hy13x10 => intro w hSw; obtain ⟨r0, r1⟩ := hSw; go_simp <;> with_reducible rfl
      simp only [Act.put, List.getElem_toArray, List.getElem_cons_zero, List.getElem_cons_succ, List.setIfInBounds_toArray, List.set_cons_zero, List.set_cons_succ]
      refine wpAnyH_ready (rs := [11]) (by as_aux_lemma => kernel_rfl) (by simp) ?_
      refine AllReadyH.cons rfl (fun K hK => ?_) AllReadyH.nil
      go_simp
      refine hK _ _ (unhide HTL w3 (unhide HB3)).1 ?_
      clear hK hHeld
      intro _
      refine wpAnyH_done (by as_aux_lemma => kernel_rfl) ?_ _
      have HTW := hide (unhide HTL w3 (unhide HB3)).2
      generalize (w3).setCell ⟨w.heap.size + 1, 2, none⟩ (.slice ao L cap) = Z at HTW ⊢
      exact unhide HTAIL Z (unhide HTW)
  · skip
    go_simp
    refine hK _ _ hHeld ?_
    clear hK hHeld
    intro hHeld
    refine wpAnyH_take (i := 4) (v := ?v14x4) rfl (by as_aux_lemma => kernel_rfl) (by as_aux_lemma => kernel_rfl) (by as_aux_lemma => kernel_rfl) (fun _ _ _ h => h) (Or.inl ⟨by rfl, ?hy14x4⟩) (by assumption) ?rest14x4
    case hy14x4 => intro w hSw; go_simp <;> with_reducible rfl
    simp only [Act.put, List.getElem_toArray, List.getElem_cons_zero, List.getElem_cons_succ, List.setIfInBounds_toArray, List.set_cons_zero, List.set_cons_succ]
    refine wpAnyH_ready (rs := [1, 6]) (by as_aux_lemma => kernel_rfl) (by simp) ?_
    refine AllReadyH.cons rfl (fun K hK => ?_) (AllReadyH.cons rfl (fun K hK => ?_) AllReadyH.nil)
    · skip
      go_simp
      refine hK _ _ hHeld ?_
      clear hK hHeld
      intro hHeld
      refine wpAnyH_ready (rs := [6]) (by as_aux_lemma => kernel_rfl) (by simp) ?_
      refine AllReadyH.cons rfl (fun K hK => ?_) AllReadyH.nil
      go_simp
      refine (most_any f b _).mono ?_
      rintro e w3 ⟨rfl, b3⟩
      have HB3 := hide ((Below.refl _ _).drew.trans b3)
      clear b3
      obtain ⟨⟨p0, p1⟩, ⟨p2, p3, p4⟩, p5⟩ := unhide HYX w3 (unhide HB3)
      refine hK _ _ ⟨p0, p1⟩ ?_
      clear hK hHeld
      intro hHeld
      refine wpAnyH_take (i := 7) (v := (.int .i64 (max 0 (mst b)))) rfl (by as_aux_lemma => kernel_rfl) (by as_aux_lemma => kernel_rfl) (by as_aux_lemma => kernel_rfl) (fun _ _ _ h => h) (Or.inl ⟨by rfl, ?hy15x7⟩) (by assumption) ?rest15x7
      case hy15x7 => intro w hSw; go_simp <;> with_reducible rfl
      simp only [Act.put, List.getElem_toArray, List.getElem_cons_zero, List.getElem_cons_succ, List.setIfInBounds_toArray, List.set_cons_zero, List.set_cons_succ]
      refine wpAnyH_take (i := 8) (v := (.int .i64 (L : Int))) rfl (by as_aux_lemma => kernel_rfl) (by as_aux_lemma => kernel_rfl) (by as_aux_lemma => kernel_rfl) (fun _ _ _ h => h) (Or.inl ⟨by rfl, ?hy16x8⟩) (by assumption) ?rest16x8
      case hy16x8 => intro w hSw; go_simp <;> with_reducible rfl
      simp only [Act.put, List.getElem_toArray, List.getElem_cons_zero, List.getElem_cons_succ, List.setIfInBounds_toArray, List.set_cons_zero, List.set_cons_succ]
      refine wpAnyH_take (i := 9) (v := (.slice ao L cap)) rfl (by as_aux_lemma => kernel_rfl) (by as_aux_lemma => kernel_rfl) (by as_aux_lemma => kernel_rfl) (fun _ _ _ h => h) (Or.inl ⟨by rfl, ?hy17x9⟩) (by assumption) ?rest17x9
      case hy17x9 => intro w hSw; go_simp <;> with_reducible rfl
      simp only [Act.put, List.getElem_toArray, List.getElem_cons_zero, List.getElem_cons_succ, List.setIfInBounds_toArray, List.set_cons_zero, List.set_cons_succ]
      refine wpAnyH_take (i := 10) (v := ?v18x10) rfl (by as_aux_lemma => kernel_rfl) (by as_aux_lemma => kernel_rfl) (by as_aux_lemma => kernel_rfl) (fun _ _ _ h => h) (Or.inl ⟨by rfl, ?hy18x10⟩) (by assumption) ?rest18x10
      case hy18x10 => intro w hSw; obtain ⟨r0, r1⟩ := hSw; go_simp <;> with_reducible rfl
      simp only [Act.put, List.getElem_toArray, List.getElem_cons_zero, List.getElem_cons_succ, List.setIfInBounds_toArray, List.set_cons_zero, List.set_cons_succ]
      refine wpAnyH_ready (rs := [11]) (by as_aux_lemma => kernel_rfl) (by simp) ?_
      refine AllReadyH.cons rfl (fun K hK => ?_) AllReadyH.nil
      go_simp
      refine hK _ _ (unhide HTL w3 (unhide HB3)).1 ?_
      clear hK hHeld
      intro _
      refine wpAnyH_done (by as_aux_lemma => kernel_rfl) ?_ _
      have HTW := hide (unhide HTL w3 (unhide HB3)).2
      generalize (w3).setCell ⟨w.heap.size + 1, 2, none⟩ (.slice ao L cap) = Z at HTW ⊢
      exact unhide HTAIL Z (unhide HTW)
    · skip
      go_simp
      refine (most_any f b _).mono ?_
      rintro e w3 ⟨rfl, b3⟩
      have HB3 := hide ((Below.refl _ _).drew.trans b3)
      clear b3
      obtain ⟨⟨p0, p1⟩, ⟨p2, p3, p4⟩, p5⟩ := unhide HYX w3 (unhide HB3)
      refine hK _ _ ⟨p0, p1⟩ ?_
      clear hK hHeld
      intro hHeld
      refine wpAnyH_take (i := 7) (v := (.int .i64 (max 0 (mst b)))) rfl (by as_aux_lemma => kernel_rfl) (by as_aux_lemma => kernel_rfl) (by as_aux_lemma => kernel_rfl) (fun _ _ _ h => h) (Or.inl ⟨by rfl, ?hy19x7⟩) (by assumption) ?rest19x7
      case hy19x7 => intro w hSw; go_simp <;> with_reducible rfl
      simp only [Act.put, List.getElem_toArray, List.getElem_cons_zero, List.getElem_cons_succ, List.setIfInBounds_toArray, List.set_cons_zero, List.set_cons_succ]
      refine wpAnyH_take (i := 8) (v := (.int .i64 (L : Int))) rfl (by as_aux_lemma => kernel_rfl) (by as_aux_lemma => kernel_rfl) (by as_aux_lemma => kernel_rfl) (fun _ _ _ h => h) (Or.inl ⟨by rfl, ?hy20x8⟩) (by assumption) ?rest20x8
      case hy20x8 => intro w hSw; go_simp <;> with_reducible rfl
      simp only [Act.put, List.getElem_toArray, List.getElem_cons_zero, List.getElem_cons_succ, List.setIfInBounds_toArray, List.set_cons_zero, List.set_cons_succ]
      refine wpAnyH_ready (rs := [1]) (by as_aux_lemma => kernel_rfl) (by simp) ?_
      refine AllReadyH.cons rfl (fun K hK => ?_) AllReadyH.nil
      go_simp
      refine hK _ _ hHeld ?_
      clear hK hHeld
      intro hHeld
      refine wpAnyH_take (i := 9) (v := (.slice ao L cap)) rfl (by as_aux_lemma => kernel_rfl) (by as_aux_lemma => kernel_rfl) (by as_aux_lemma => kernel_rfl) (fun _ _ _ h => h) (Or.inl ⟨by rfl, ?hy21x9⟩) (by assumption) ?rest21x9
      case hy21x9 => intro w hSw; go_simp <;> with_reducible rfl
      simp only [Act.put, List.getElem_toArray, List.getElem_cons_zero, List.getElem_cons_succ, List.setIfInBounds_toArray, List.set_cons_zero, List.set_cons_succ]
      refine wpAnyH_take (i := 10) (v := ?v22x10) rfl (by as_aux_lemma => kernel_rfl) (by as_aux_lemma => kernel_rfl) (by as_aux_lemma => kernel_rfl) (fun _ _ _ h => h) (Or.inl ⟨by rfl, ?hy22x10⟩) (by assumption) ?rest22x10
      case hy22x10 => intro w hSw; obtain ⟨r0, r1⟩ := hSw; go_simp <;> with_reducible rfl
      simp only [Act.put, List.getElem_toArray, List.getElem_cons_zero, List.getElem_cons_succ, List.setIfInBounds_toArray, List.set_cons_zero, List.set_cons_succ]
      refine wpAnyH_ready (rs := [11]) (by as_aux_lemma => kernel_rfl) (by simp) ?_
      refine AllReadyH.cons rfl (fun K hK => ?_) AllReadyH.nil
      go_simp
      refine hK _ _ (unhide HTL w3 (unhide HB3)).1 ?_
      clear hK hHeld
      intro _
      refine wpAnyH_done (by as_aux_lemma => kernel_rfl) ?_ _
      have HTW := hide (unhide HTL w3 (unhide HB3)).2
      generalize (w3).setCell ⟨w.heap.size + 1, 2, none⟩ (.slice ao L cap) = Z at HTW ⊢
      exact unhide HTAIL Z (unhide HTW)
  · skip
    go_simp
    refine (most_any f b _).mono ?_
    rintro e w3 ⟨rfl, b3⟩
    have HB3 := hide ((Below.refl _ _).drew.trans b3)
    clear b3
    obtain ⟨⟨p0, p1⟩, ⟨p2, p3, p4⟩, p5⟩ := unhide HYX w3 (unhide HB3)
    refine hK _ _ ⟨p0, p1⟩ ?_
    clear hK hHeld
    intro hHeld
    refine wpAnyH_take (i := 7) (v := (.int .i64 (max 0 (mst b)))) rfl (by as_aux_lemma => kernel_rfl) (by as_aux_lemma => kernel_rfl) (by as_aux_lemma => kernel_rfl) (fun _ _ _ h => h) (Or.inl ⟨by rfl, ?hy23x7⟩) (by assumption) ?rest23x7
    case hy23x7 => intro w hSw; go_simp <;> with_reducible rfl
    simp only [Act.put, List.getElem_toArray, List.getElem_cons_zero, List.getElem_cons_succ, List.setIfInBounds_toArray, List.set_cons_zero, List.set_cons_succ]
    refine wpAnyH_ready (rs := [1, 3]) (by as_aux_lemma => kernel_rfl) (by simp) ?_
    refine AllReadyH.cons rfl (fun K hK => ?_) (AllReadyH.cons rfl (fun K hK => ?_) AllReadyH.nil)
    · skip
      go_simp
      refine hK _ _ hHeld ?_
      clear hK hHeld
      intro hHeld
      refine wpAnyH_ready (rs := [3]) (by as_aux_lemma => kernel_rfl) (by simp) ?_
      refine AllReadyH.cons rfl (fun K hK => ?_) AllReadyH.nil
      go_simp
      refine hK _ _ hHeld ?_
      clear hK hHeld
      intro hHeld
      refine wpAnyH_take (i := 4) (v := ?v24x4) rfl (by as_aux_lemma => kernel_rfl) (by as_aux_lemma => kernel_rfl) (by as_aux_lemma => kernel_rfl) (fun _ _ _ h => h) (Or.inl ⟨by rfl, ?hy24x4⟩) (by assumption) ?rest24x4
      case hy24x4 => intro w hSw; go_simp <;> with_reducible rfl
      simp only [Act.put, List.getElem_toArray, List.getElem_cons_zero, List.getElem_cons_succ, List.setIfInBounds_toArray, List.set_cons_zero, List.set_cons_succ]
      refine wpAnyH_take (i := 8) (v := (.int .i64 (L : Int))) rfl (by as_aux_lemma => kernel_rfl) (by as_aux_lemma => kernel_rfl) (by as_aux_lemma => kernel_rfl) (fun _ _ _ h => h) (Or.inl ⟨by rfl, ?hy25x8⟩) (by assumption) ?rest25x8
      case hy25x8 => intro w hSw; go_simp <;> with_reducible rfl
      simp only [Act.put, List.getElem_toArray, List.getElem_cons_zero, List.getElem_cons_succ, List.setIfInBounds_toArray, List.set_cons_zero, List.set_cons_succ]
      refine wpAnyH_take (i := 9) (v := (.slice ao L cap)) rfl (by as_aux_lemma => kernel_rfl) (by as_aux_lemma => kernel_rfl) (by as_aux_lemma => kernel_rfl) (fun _ _ _ h => h) (Or.inl ⟨by rfl, ?hy26x9⟩) (by assumption) ?rest26x9
      case hy26x9 => intro w hSw; go_simp <;> with_reducible rfl
      simp only [Act.put, List.getElem_toArray, List.getElem_cons_zero, List.getElem_cons_succ, List.setIfInBounds_toArray, List.set_cons_zero, List.set_cons_succ]
      refine wpAnyH_take (i := 10) (v := ?v27x10) rfl (by as_aux_lemma => kernel_rfl) (by as_aux_lemma => kernel_rfl) (by as_aux_lemma => kernel_rfl) (fun _ _ _ h => h) (Or.inl ⟨by rfl, ?hy27x10⟩) (by assumption) ?rest27x10
      case hy27x10 => intro w hSw; obtain ⟨r0, r1⟩ := hSw; go_simp <;> with_reducible rfl
      simp only [Act.put, List.getElem_toArray, List.getElem_cons_zero, List.getElem_cons_succ, List.setIfInBounds_toArray, List.set_cons_zero, List.set_cons_succ]
      refine wpAnyH_ready (rs := [11]) (by as_aux_lemma => kernel_rfl) (by simp) ?_
      refine AllReadyH.cons rfl (fun K hK => ?_) AllReadyH.nil
      go_simp
      refine hK _ _ (unhide HTL w3 (unhide HB3)).1 ?_
      clear hK hHeld
      intro _
      refine wpAnyH_done (by as_aux_lemma => kernel_rfl) ?_ _
      have HTW := hide (unhide HTL w3 (unhide HB3)).2
      generalize (w3).setCell ⟨w.heap.size + 1, 2, none⟩ (.slice ao L cap) = Z at HTW ⊢
      exact unhide HTAIL Z (unhide HTW)
    · skip
      go_simp
      refine hK _ _ hHeld ?_
      clear hK hHeld
      intro hHeld
      refine wpAnyH_take (i := 4) (v := ?v28x4) rfl (by as_aux_lemma => kernel_rfl) (by as_aux_lemma => kernel_rfl) (by as_aux_lemma => kernel_rfl) (fun _ _ _ h => h) (Or.inl ⟨by rfl, ?hy28x4⟩) (by assumption) ?rest28x4
      case hy28x4 => intro w hSw; go_simp <;> with_reducible rfl
      simp only [Act.put, List.getElem_toArray, List.getElem_cons_zero, List.getElem_cons_succ, List.setIfInBounds_toArray, List.set_cons_zero, List.set_cons_succ]
      refine wpAnyH_take (i := 8) (v := (.int .i64 (L : Int))) rfl (by as_aux_lemma => kernel_rfl) (by as_aux_lemma => kernel_rfl) (by as_aux_lemma => kernel_rfl) (fun _ _ _ h => h) (Or.inl ⟨by rfl, ?hy29x8⟩) (by assumption) ?rest29x8
      case hy29x8 => intro w hSw; go_simp <;> with_reducible rfl
      simp only [Act.put, List.getElem_toArray, List.getElem_cons_zero, List.getElem_cons_succ, List.setIfInBounds_toArray, List.set_cons_zero, List.set_cons_succ]
      refine wpAnyH_ready (rs := [1]) (by as_aux_lemma => kernel_rfl) (by simp) ?_
      refine AllReadyH.cons rfl (fun K hK => ?_) AllReadyH.nil
      go_simp
      refine hK _ _ hHeld ?_
      clear hK hHeld
      intro hHeld
      refine wpAnyH_take (i := 9) (v := (.slice ao L cap)) rfl (by as_aux_lemma => kernel_rfl) (by as_aux_lemma => kernel_rfl) (by as_aux_lemma => kernel_rfl) (fun _ _ _ h => h) (Or.inl ⟨by rfl, ?hy30x9⟩) (by assumption) ?rest30x9
      case hy30x9 => intro w hSw; go_simp <;> with_reducible rfl
      simp only [Act.put, List.getElem_toArray, List.getElem_cons_zero, List.getElem_cons_succ, List.setIfInBounds_toArray, List.set_cons_zero, List.set_cons_succ]
      refine wpAnyH_take (i := 10) (v := ?v31x10) rfl (by as_aux_lemma => kernel_rfl) (by as_aux_lemma => kernel_rfl) (by as_aux_lemma => kernel_rfl) (fun _ _ _ h => h) (Or.inl ⟨by rfl, ?hy31x10⟩) (by assumption) ?rest31x10
      case hy31x10 => intro w hSw; obtain ⟨r0, r1⟩ := hSw; go_simp <;> with_reducible rfl
      simp only [Act.put, List.getElem_toArray, List.getElem_cons_zero, List.getElem_cons_succ, List.setIfInBounds_toArray, List.set_cons_zero, List.set_cons_succ]
      refine wpAnyH_ready (rs := [11]) (by as_aux_lemma => kernel_rfl) (by simp) ?_
      refine AllReadyH.cons rfl (fun K hK => ?_) AllReadyH.nil
      go_simp
      refine hK _ _ (unhide HTL w3 (unhide HB3)).1 ?_
      clear hK hHeld
      intro _
      refine wpAnyH_done (by as_aux_lemma => kernel_rfl) ?_ _
      have HTW := hide (unhide HTL w3 (unhide HB3)).2
      generalize (w3).setCell ⟨w.heap.size + 1, 2, none⟩ (.slice ao L cap) = Z at HTW ⊢
      exact unhide HTAIL Z (unhide HTW)
  intro Z zF
  have HTW := hide zF
  clear zF
  obtain ⟨z0, z1, z2, z3, z4, zC⟩ := unhide HTW
  have HZC := hide zC
  clear zC HTW
  go_wp2_with fail
  refine (unhide HZC).mono ?_
  rintro e w5 ⟨rfl, y0, y1, b5⟩
  have HB5 := hide b5
  clear b5 HZC z0 z1 z2 z3 z4
  rcases unhide HR5 with hr | ⟨hr, c⟩ | ⟨hr, c1, c, c'⟩ | ⟨hr, c1, c2, c⟩ | ⟨hr, c1, c2, c3, c⟩
  all_goals
    rw [hr]
    go_wp2
    go_ret
    refine ⟨?_, unhide HB5⟩
    first | rfl | (congr 2; simp; omega)
end Go.Proofs.Ytiijbklaapaheaa
