/- The document's own reader (package trivetref04): Keys. -/
import Derived.Test.YtggllgimlfchhaaPD2
import Derived.Deep.RegionHeld3
namespace Go.Proofs.Ytggllgimlfchhaa
open Go.RowKit
set_option maxRecDepth 100000

theorem iter_len0 {α : Type} (take : RS → α × RS) (s : RS) (h : s.len.er ≠ 0) : s.list take = ([], s.len) := by
  unfold RS.list
  have := iter_stop (take := take) (k := 0) (s := s.len) h s.num.1.toNat
  rw [Nat.zero_add] at this
  rw [this]
  rfl
theorem len_val {s : RS} (h : s.len.er = 0) : lenV s.num.1 = s.num.1 := by
  unfold lenV; rw [if_pos (len_ok h)]
theorem len_bad {s : RS} (h : s.len.er ≠ 0) : lenV s.num.1 = 0 := by
  unfold lenV
  split
  · rename_i c
    have e : s.num.2.er ≠ 0 := fun g => h (by unfold RS.len; rw [decide_eq_true c, must_true]; exact g)
    exact num_bad e
  · rfl
/-- The document's list, by its own length. -/
theorem list_lenV {α : Type} (take : RS → α × RS) (s : RS) : s.list take = RS.iter take (lenV s.num.1).toNat s.len := by
  by_cases h : s.len.er = 0
  · rw [len_val h]; rfl
  · rw [iter_len0 take s h, len_bad h]; rfl

set_option maxHeartbeats 1600000 in
theorem keys_d {w : World} {R lo : Nat} {z0 : List Int} {s : RS} (h : Dr w R lo z0 s) :
    Calls Try.prog 57 #[.pointer (some ⟨R, 0, none⟩)] w fun e w' => ∃ x, e = .returned x ∧ w'.ownsRow w.heap.size 64 2 x (s.list RS.dkey).1.length (keyCs (s.list RS.dkey).1) ∧ Dr w' R lo z0 (s.list RS.dkey).2 ∧ But R w w' := by
  obtain ⟨i0, hi, hz0, hz1, hz2⟩ := info_parts Try.info64
  have HN := hide (len_d h)
  have HRl := hide h.rlt
  rw [list_lenV]
  obtain ⟨m, hm, hm4⟩ := lenV_nat s.num.1
  rw [hm] at HN ⊢
  rw [Int.toNat_natCast]
  obtain ⟨s2, hs2⟩ : ∃ s2, s.len = s2 := ⟨_, rfl⟩
  rw [hs2] at HN ⊢
  clear h hm hs2
  go_enter Try.func57, Try.ntmps57
  go_wp2_with fail
  refine (unhide HN).mono ?_
  rintro e w2 ⟨rfl, h1, h2⟩
  have HR2 := hide h1
  have HB2 := hide h2
  clear h1 h2 HN
  go_wp2
  go_loopw [4, 5] (fun v c wr => ∃ i : Nat, i ≤ m ∧ c = .int .i64 i ∧ wr.ownsRow w.heap.size 64 2 v (RS.iter RS.dkey i s2).1.length (keyCs (RS.iter RS.dkey i s2).1) ∧ Dr wr R lo z0 (RS.iter RS.dkey i s2).2 ∧ But R w wr) (fun _ c _ => m - (intOf c).toNat)
  case atStart => exact ⟨0, by omega, rfl, World.ownsRow_nil _ _ _ _, unhide HR2, unhide HB2⟩
  case round =>
    obtain ⟨i, him, rfl, ho, hr, hb⟩ := hrel
    obtain ⟨ao, ca, rfl⟩ := own_shapeN ho
    have g1 := hr.ce
    have hil := iter_len RS.dkey s2 i
    by_cases hlt : i < m
    · by_cases he : (RS.iter RS.dkey i s2).2.er = 0
      · rw [he] at g1
        have hst := iter_step he
        have HST := hide hst
        have HO := hide ho
        have HRr := hide hr
        have HB := hide hb
        have HT := hide (num_d hr)
        clear ho hr hb hst he
        generalize RS.iter RS.dkey i s2 = it at *
        obtain ⟨L, sI⟩ := it
        simp only at HST HO HRr HT hil g1 ⊢
        obtain ⟨n, hn⟩ : ∃ n, sI.num.1 = n := ⟨_, rfl⟩
        rw [hn] at HT
        have HN1 := hide hn
        go_wp2_with fail
        refine (unhide HT).mono ?_
        rintro e w3 ⟨rfl, q1, q2⟩
        have hrl := unhide HRl
        have HO3 := hide (own_keepR (unhide HO) q2 hrl)
        have HR3 := hide q1
        have HB3 := hide ((unhide HB).trans q2)
        have hcu := q1.cu
        have hfr := q1.fr
        clear q1 q2 HT HO HRr HB
        by_cases c1 : n < -2147483648
        · skip
          have hfit : (if w32 n = n then n else 0) = 0 := if_neg (fun e => by unfold w32 wrap32 at e; omega)
          have HRF : Hid (Dr (w3.setCell ⟨R, 3, none⟩ (.bool true)) R lo z0 sI.fit32.2) := by
            have e : sI.fit32.2 = ⟨sI.num.2.zs, sI.num.2.er, true⟩ := by unfold RS.fit32; rw [unhide HN1, if_neg (fun e => by unfold w32 wrap32 at e; omega)]
            rw [e]; exact (unhide HR3).odd
          have HOF := hide (own_setR (unhide HO3) hrl 3 (.bool true))
          have HBF := hide ((unhide HB3).set 3 (.bool true))
          clear HR3 HO3 HB3
          generalize hF2 : sI.fit32.2 = sF at *
          have HT2 := hide (num_d (unhide HRF))
          obtain ⟨r, hr⟩ : ∃ r, sF.num.1 = r := ⟨_, rfl⟩
          rw [hr] at HT2
          go_wp2_with fail
          refine (unhide HT2).mono ?_
          rintro e w4 ⟨rfl, q1, q2⟩
          have ho4 := own_keepR (unhide HOF) q2 hrl
          have hal : Below w4.heap.size w4 (w4.alloc (.cells #[.int .i32 0, .int .i64 r] 64)) := (Below.refl _ _).alloc (Nat.le_refl _) _
          have HO4 := hide (own_below ho4 hal)
          have HR4 := hide (q1.below hal)
          have HB4 := hide (((unhide HBF).trans q2).trans (But.of hal))
          have HSZ4 : Hid (w.heap.size ≤ (w4.alloc (.cells #[.int .i32 0, .int .i64 r] 64)).heap.size) := (unhide HB4).size
          have hky : sI.dkey = ((0, r), sF.num.2) := by unfold RS.dkey; rw [hF2, hr, unhide HN1, hfit]
          have HKY := hide hky
          clear q1 q2 ho4 hal HT2 HOF HBF HRF hky
          go_wp2_with (at_builtin; refine wpList_append_own _ rfl _ _ 33 rfl w.heap.size 64 i0 (.agg #[.int .i32 0, .int .i64 0]) 2 16 Try.underlying33 hi hz0 hz1 hz2 rfl (by decide) _ _ _ rfl (unhide HO4) ⟨w4.heap.size, 0, none⟩ 1 1 [.int .i32 0, .int .i64 r] rfl rfl ?d0 ?d1 ?d2 ?d3 ?d4 ?_)
          case d0 =>
            intro j u hu
            have hj : j < 2 := by have := (List.getElem?_eq_some_iff.1 hu).1; simpa using this
            have hadd : (⟨w4.heap.size, 0, none⟩ : Addr).add j = ⟨w4.heap.size, j, none⟩ := by unfold Addr.add; split <;> simp_all
            rw [hadd, World.cell?_alloc_new]
            simpa using hu
          case d1 => intro u hu; simp at hu; rcases hu with rfl | rfl <;> rfl
          case d2 => unfold maxLen; omega
          case d3 => omega
          case d4 => exact unhide HSZ4
          intro v' w5 ho5 hg5 _
          obtain ⟨ao', ca', rfl⟩ := own_shapeN ho5
          have HFN : Hid (w5.ownsRow w.heap.size 64 2 (.slice ao' (L.length + 1) ca') (RS.iter RS.dkey (i + 1) s2).1.length (keyCs (RS.iter RS.dkey (i + 1) s2).1) ∧ Dr w5 R lo z0 (RS.iter RS.dkey (i + 1) s2).2 ∧ But R w w5) := by
            rw [unhide HST, unhide HKY]
            refine ⟨?_, (unhide HR4).grown (unhide HO4) hrl hg5, (unhide HB4).grown (unhide HO4) (Nat.le_refl _) hg5⟩
            rw [List.length_append, keyCs_append]
            exact ho5
          clear ho5 hg5
          go_wp2
          go_roundw
          case rel => exact ⟨i + 1, by omega, by go_num, (unhide HFN).1, (unhide HFN).2.1, (unhide HFN).2.2⟩
          case measure => simp [intOf]; omega
        · by_cases c2 : 2147483647 < n
          · skip
            have hfit : (if w32 n = n then n else 0) = 0 := if_neg (fun e => by unfold w32 wrap32 at e; omega)
            have HRF : Hid (Dr (w3.setCell ⟨R, 3, none⟩ (.bool true)) R lo z0 sI.fit32.2) := by
              have e : sI.fit32.2 = ⟨sI.num.2.zs, sI.num.2.er, true⟩ := by unfold RS.fit32; rw [unhide HN1, if_neg (fun e => by unfold w32 wrap32 at e; omega)]
              rw [e]; exact (unhide HR3).odd
            have HOF := hide (own_setR (unhide HO3) hrl 3 (.bool true))
            have HBF := hide ((unhide HB3).set 3 (.bool true))
            clear HR3 HO3 HB3
            generalize hF2 : sI.fit32.2 = sF at *
            have HT2 := hide (num_d (unhide HRF))
            obtain ⟨r, hr⟩ : ∃ r, sF.num.1 = r := ⟨_, rfl⟩
            rw [hr] at HT2
            go_wp2_with fail
            refine (unhide HT2).mono ?_
            rintro e w4 ⟨rfl, q1, q2⟩
            have ho4 := own_keepR (unhide HOF) q2 hrl
            have hal : Below w4.heap.size w4 (w4.alloc (.cells #[.int .i32 0, .int .i64 r] 64)) := (Below.refl _ _).alloc (Nat.le_refl _) _
            have HO4 := hide (own_below ho4 hal)
            have HR4 := hide (q1.below hal)
            have HB4 := hide (((unhide HBF).trans q2).trans (But.of hal))
            have HSZ4 : Hid (w.heap.size ≤ (w4.alloc (.cells #[.int .i32 0, .int .i64 r] 64)).heap.size) := (unhide HB4).size
            have hky : sI.dkey = ((0, r), sF.num.2) := by unfold RS.dkey; rw [hF2, hr, unhide HN1, hfit]
            have HKY := hide hky
            clear q1 q2 ho4 hal HT2 HOF HBF HRF hky
            go_wp2_with (at_builtin; refine wpList_append_own _ rfl _ _ 33 rfl w.heap.size 64 i0 (.agg #[.int .i32 0, .int .i64 0]) 2 16 Try.underlying33 hi hz0 hz1 hz2 rfl (by decide) _ _ _ rfl (unhide HO4) ⟨w4.heap.size, 0, none⟩ 1 1 [.int .i32 0, .int .i64 r] rfl rfl ?d0 ?d1 ?d2 ?d3 ?d4 ?_)
            case d0 =>
              intro j u hu
              have hj : j < 2 := by have := (List.getElem?_eq_some_iff.1 hu).1; simpa using this
              have hadd : (⟨w4.heap.size, 0, none⟩ : Addr).add j = ⟨w4.heap.size, j, none⟩ := by unfold Addr.add; split <;> simp_all
              rw [hadd, World.cell?_alloc_new]
              simpa using hu
            case d1 => intro u hu; simp at hu; rcases hu with rfl | rfl <;> rfl
            case d2 => unfold maxLen; omega
            case d3 => omega
            case d4 => exact unhide HSZ4
            intro v' w5 ho5 hg5 _
            obtain ⟨ao', ca', rfl⟩ := own_shapeN ho5
            have HFN : Hid (w5.ownsRow w.heap.size 64 2 (.slice ao' (L.length + 1) ca') (RS.iter RS.dkey (i + 1) s2).1.length (keyCs (RS.iter RS.dkey (i + 1) s2).1) ∧ Dr w5 R lo z0 (RS.iter RS.dkey (i + 1) s2).2 ∧ But R w w5) := by
              rw [unhide HST, unhide HKY]
              refine ⟨?_, (unhide HR4).grown (unhide HO4) hrl hg5, (unhide HB4).grown (unhide HO4) (Nat.le_refl _) hg5⟩
              rw [List.length_append, keyCs_append]
              exact ho5
            clear ho5 hg5
            go_wp2
            go_roundw
            case rel => exact ⟨i + 1, by omega, by go_num, (unhide HFN).1, (unhide HFN).2.1, (unhide HFN).2.2⟩
            case measure => simp [intOf]; omega
          · skip
            have hfit : (if w32 n = n then n else 0) = n := if_pos (by unfold w32 wrap32; omega)
            have hw32 : IntKind.i32.wrap n = n := by rw [IntKind.wrap_i32]; omega
            have HRF : Hid (Dr w3 R lo z0 sI.fit32.2) := by
              have e : sI.fit32.2 = sI.num.2 := by unfold RS.fit32; rw [unhide HN1, if_pos (by unfold w32 wrap32; omega)]
              rw [e]; exact (unhide HR3)
            have HOF := HO3
            have HBF := HB3
            clear HR3 HO3 HB3
            generalize hF2 : sI.fit32.2 = sF at *
            have HT2 := hide (num_d (unhide HRF))
            obtain ⟨r, hr⟩ : ∃ r, sF.num.1 = r := ⟨_, rfl⟩
            rw [hr] at HT2
            go_wp2_with fail
            refine (unhide HT2).mono ?_
            rintro e w4 ⟨rfl, q1, q2⟩
            have ho4 := own_keepR (unhide HOF) q2 hrl
            have hal : Below w4.heap.size w4 (w4.alloc (.cells #[.int .i32 n, .int .i64 r] 64)) := (Below.refl _ _).alloc (Nat.le_refl _) _
            have HO4 := hide (own_below ho4 hal)
            have HR4 := hide (q1.below hal)
            have HB4 := hide (((unhide HBF).trans q2).trans (But.of hal))
            have HSZ4 : Hid (w.heap.size ≤ (w4.alloc (.cells #[.int .i32 n, .int .i64 r] 64)).heap.size) := (unhide HB4).size
            have hky : sI.dkey = ((n, r), sF.num.2) := by unfold RS.dkey; rw [hF2, hr, unhide HN1, hfit]
            have HKY := hide hky
            clear q1 q2 ho4 hal HT2 HOF HBF HRF hky
            go_wp2_with (at_builtin; refine wpList_append_own _ rfl _ _ 33 rfl w.heap.size 64 i0 (.agg #[.int .i32 0, .int .i64 0]) 2 16 Try.underlying33 hi hz0 hz1 hz2 rfl (by decide) _ _ _ rfl (unhide HO4) ⟨w4.heap.size, 0, none⟩ 1 1 [.int .i32 n, .int .i64 r] rfl rfl ?d0 ?d1 ?d2 ?d3 ?d4 ?_)
            case d0 =>
              intro j u hu
              have hj : j < 2 := by have := (List.getElem?_eq_some_iff.1 hu).1; simpa using this
              have hadd : (⟨w4.heap.size, 0, none⟩ : Addr).add j = ⟨w4.heap.size, j, none⟩ := by unfold Addr.add; split <;> simp_all
              rw [hadd, World.cell?_alloc_new]
              simpa using hu
            case d1 => intro u hu; simp at hu; rcases hu with rfl | rfl <;> rfl
            case d2 => unfold maxLen; omega
            case d3 => omega
            case d4 => exact unhide HSZ4
            intro v' w5 ho5 hg5 _
            obtain ⟨ao', ca', rfl⟩ := own_shapeN ho5
            have HFN : Hid (w5.ownsRow w.heap.size 64 2 (.slice ao' (L.length + 1) ca') (RS.iter RS.dkey (i + 1) s2).1.length (keyCs (RS.iter RS.dkey (i + 1) s2).1) ∧ Dr w5 R lo z0 (RS.iter RS.dkey (i + 1) s2).2 ∧ But R w w5) := by
              rw [unhide HST, unhide HKY]
              refine ⟨?_, (unhide HR4).grown (unhide HO4) hrl hg5, (unhide HB4).grown (unhide HO4) (Nat.le_refl _) hg5⟩
              rw [List.length_append, keyCs_append]
              exact ho5
            clear ho5 hg5
            go_wp2
            go_roundw
            case rel => exact ⟨i + 1, by omega, by go_num, (unhide HFN).1, (unhide HFN).2.1, (unhide HFN).2.2⟩
            case measure => simp [intOf]; omega
      · have hE : RS.iter RS.dkey m s2 = RS.iter RS.dkey i s2 := by
          have e := iter_stop (take := RS.dkey) (k := i) (s := s2) he (m - i)
          rwa [show i + (m - i) = m by omega] at e
        have HF : Hid (wr.ownsRow w.heap.size 64 2 (.slice ao (RS.iter RS.dkey i s2).1.length ca) (RS.iter RS.dkey m s2).1.length (keyCs (RS.iter RS.dkey m s2).1) ∧ Dr wr R lo z0 (RS.iter RS.dkey m s2).2 ∧ But R w wr) := by rw [hE]; exact ⟨ho, hr, hb⟩
        clear ho hr hb hE
        generalize (RS.iter RS.dkey i s2).2.er = er2 at g1 he
        have heb : (er2 == 0) = false := by simpa using he
        go_wp2
        go_ret
        exact ⟨_, rfl, unhide HF⟩
    · obtain rfl : i = m := by omega
      have HF : Hid (wr.ownsRow w.heap.size 64 2 (.slice ao (RS.iter RS.dkey i s2).1.length ca) (RS.iter RS.dkey i s2).1.length (keyCs (RS.iter RS.dkey i s2).1) ∧ Dr wr R lo z0 (RS.iter RS.dkey i s2).2 ∧ But R w wr) := ⟨ho, hr, hb⟩
      clear ho hr hb
      generalize (RS.iter RS.dkey i s2).2.er = er2 at g1
      go_wp2
      go_ret
      exact ⟨_, rfl, unhide HF⟩
end Go.Proofs.Ytggllgimlfchhaa
