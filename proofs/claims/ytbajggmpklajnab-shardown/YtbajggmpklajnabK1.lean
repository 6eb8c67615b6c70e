/- ShardOwn's walk. -/
import Derived.Test.YtbajggmpklajnabK0
namespace Go.Proofs.Ytbajggmpklajnab
open Go.RowKit
set_option maxRecDepth 100000

set_option maxHeartbeats 6400000 in
theorem own_walk {v u : Value} {l : List Ky} {q : List Pr} {w : World} (hs : SeesL kC 2 w v l) (hok : ∀ k ∈ l, OkK k) (hll : l.length ≤ 8796093021952) (hq : SeesL pC 3 w u q) (hoq : ∀ p ∈ q, OkK p.1) (hlq : q.length ≤ 5864062014634) :
    Calls Try.prog 3 #[v, u] w fun e w' => e = .returned (.bool true) ∧ Below w.heap.size w w' := by
  -- the copies
  have hb0 : Below w.heap.size w (w.alloc (.cells #[] 27)) := below_box _
  obtain ⟨vk, w1, r1, o1, gr1⟩ := append_keys (l := []) 22 (own_lit w 27 2) (hs.below kC_len hb0) (by omega) hb0.size
  have hb1 : Below w.heap.size w w1 := hb0.trans ((Below.refl _ _).grown gr1 hb0.size (own_block_le (own_lit w 27 2)))
  have hb1' : Below w1.heap.size w1 (w1.alloc (.cells #[] 29)) := below_box _
  have hb1w : Below w.heap.size w (w1.alloc (.cells #[] 29)) := hb1.trans (hb1'.mono hb1.size)
  obtain ⟨vp, w2, r2, o2, gr2⟩ := append_pairs (l := []) 23 (own_lit w1 29 3) (hq.below pC_len hb1w) (by omega) hb1'.size
  have hb2 : Below w1.heap.size w1 w2 := hb1'.trans ((Below.refl _ _).grown gr2 hb1'.size (own_block_le (own_lit w1 29 3)))
  have hbw2 : Below w.heap.size w w2 := hb1.trans (hb2.mono hb1.size)
  simp only [List.nil_append, Nat.zero_add] at o1 o2
  have HKC : Hid (∀ x, Below w2.heap.size w2 x → SeesL kC 2 x vk l ∧ SeesL kC 2 x v l) := fun x hx => ⟨((own_sees kC_len (by decide) (own_below o1 hb2)).2).below kC_len hx, hs.below kC_len (hbw2.trans (hx.mono hbw2.size))⟩
  have HPC : Hid (∀ x, Below w2.heap.size w2 x → SeesL pC 3 x vp q ∧ SeesL pC 3 x u q) := fun x hx => ⟨((own_sees pC_len (by decide) o2).2).below pC_len hx, hq.below pC_len (hbw2.trans (hx.mono hbw2.size))⟩
  have HEND : Hid (∀ x, Below w2.heap.size w2 x → Below w.heap.size w x) := fun x hx => hbw2.trans (hx.mono hbw2.size)
  obtain ⟨na, hna⟩ : ∃ n, (srt l).length = n := ⟨_, rfl⟩
  obtain ⟨nb, hnb⟩ : ∃ n, (srtP q).length = n := ⟨_, rfl⟩
  have HNA := hide hna
  have HNB := hide hnb
  have HK := hide (hna ▸ keys_any (unhide HKC w2 (Below.refl _ _)).2 hok (by omega))
  have HP : Hid (∀ x, Below w2.heap.size w2 x → Calls Try.prog 5 #[u] x fun e w' => ∃ r, e = .returned r ∧ w'.ownsRow x.heap.size 29 3 r nb ((srtP q).flatMap pC) ∧ Below x.heap.size x w') := fun x hx => hnb ▸ pairs_any (unhide HPC x hx).2 hoq (by omega)
  have HSP : Hid (∀ x, Below w2.heap.size w2 x → Calls Try.prog 6 #[.int .i64 3, v] x fun e w' => ∃ g, e = .returned (.slice (some ⟨g, 0, none⟩) 3 3) ∧ Parts x.heap.size w' g 3 (inP 3 (srt l)) ∧ Below x.heap.size x w') := fun x hx => split_any 3 (unhide HKC x hx).2 hok hll
  obtain ⟨av, cv, hv⟩ := hs.shape
  obtain ⟨au, cu, hu⟩ := hq.shape
  obtain ⟨ak, ck, hk⟩ := own_shape o1
  obtain ⟨ap, cp, hp⟩ := own_shape o2
  obtain ⟨n1, hn1⟩ : ∃ n, l.length = n := ⟨_, rfl⟩
  obtain ⟨n2, hn2⟩ : ∃ n, q.length = n := ⟨_, rfl⟩
  rw [hn1] at hv hk
  rw [hn2] at hu hp
  subst hv hu hk hp
  obtain ⟨y0, hy0⟩ : ∃ y, w.alloc (.cells #[] 27) = y := ⟨_, rfl⟩
  obtain ⟨y1, hy1⟩ : ∃ y, w1.alloc (.cells #[] 29) = y := ⟨_, rfl⟩
  rw [hy0] at r1
  rw [hy1] at r2
  clear hs hq hok hoq hll hlq hb0 hb1 hb1' hb1w hb2 hbw2 o1 o2 gr1 gr2 hn1 hn2 hna hnb
  go_enter Try.func3, Try.ntmps3
  go_wp2_with (first | rw [hy0] | rw [hy1] | (refine wpList_append_wanted (by rfl) _ _ 22 rfl rfl rfl r1 ?_) | (refine wpList_append_wanted (by rfl) _ _ 23 rfl rfl rfl r2 ?_) | (go_at_call 4; refine (unhide HK).mono ?_; rintro e w3 ⟨ra, rfl, o3, d3⟩; obtain ⟨aa, ca, hra⟩ := own_shape o3; subst hra; have HA := hide (And.intro o3 d3); clear o3 d3) | (go_at_call 5; refine (unhide HP _ (unhide HA).2).mono ?_; rintro e w4 ⟨rb, rfl, o4, d4⟩; obtain ⟨ab, cb, hrb⟩ := own_shape o4; subst hrb; have HB := hide (And.intro o4 d4); clear o4 d4))
  have hw4 : Below w2.heap.size w2 w4 := (unhide HA).2.trans ((unhide HB).2.mono (unhide HA).2.size)
  have HSA : Hid (SomeK w2.heap.size w4 (.slice aa na ca) na) := ⟨srt l, unhide HNA, own_below (unhide HA).1 (unhide HB).2⟩
  have HSB : Hid (SomeP w2.heap.size w4 (.slice ab nb cb) nb) := ⟨srtP q, unhide HNB, own_mono (unhide HB).1 (unhide HA).2.size⟩
  obtain ⟨hca, hma⟩ : na ≤ ca ∧ na ≤ 9223372036854775807 := by
    obtain ⟨_, _, e, h1, h2⟩ := (unhide HSA).shape
    simp only [Value.slice.injEq] at e
    obtain ⟨_, _, rfl⟩ := e
    exact ⟨h1, h2⟩
  obtain ⟨hcb, hmb⟩ : nb ≤ cb ∧ nb ≤ 9223372036854775807 := by
    obtain ⟨_, _, e, h1, h2⟩ := (unhide HSB).shape
    simp only [Value.slice.injEq] at e
    obtain ⟨_, _, rfl⟩ := e
    exact ⟨h1, h2⟩
  have HW4 := hide hw4
  clear HA HB HK HP hw4
  go_wp2_with fail
  go_loopw [26] (fun c wr => ∃ t : Nat, t ≤ na ∧ c = .int .i64 t ∧ SomeK w2.heap.size wr (.slice aa na ca) na ∧ SomeP w2.heap.size wr (.slice ab nb cb) nb ∧ Below w2.heap.size w2 wr) (fun c _ => na - (intOf c).toNat)
  case atStart => exact ⟨0, by omega, rfl, unhide HSA, unhide HSB, unhide HW4⟩
  case round =>
    obtain ⟨t, ht, rfl, hsa, hsb, hbr⟩ := hrel
    by_cases hlt : t < na
    · obtain ⟨g, cap, x, e, _, c1, f1, hg, hs1⟩ := hsa.cell hlt
      simp only [Value.slice.injEq, true_and] at e
      obtain ⟨rfl, rfl⟩ := e
      have HR : Hid (SomeK w2.heap.size (wr.setCell ⟨g, t * 2 + 1, none⟩ (.int .i64 (-9))) (.slice (some ⟨g, 0, none⟩) na ca) na ∧ SomeP w2.heap.size (wr.setCell ⟨g, t * 2 + 1, none⟩ (.int .i64 (-9))) (.slice ab nb cb) nb ∧ Below w2.heap.size w2 (wr.setCell ⟨g, t * 2 + 1, none⟩ (.int .i64 (-9)))) := by
        refine ⟨hs1, ?_, below_cell hbr hg⟩
        obtain ⟨A, _, ho⟩ := hsa
        rcases ho.2 with ⟨e', _⟩ | ⟨g2, cap2, cur2, e', _, hh, _⟩
        · cases e'
        · cases e'
          exact hsb.other hh
      clear hsa hsb hbr hs1 hg
      go_wp2
      go_roundw
      case rel => exact ⟨t + 1, by omega, by go_num, unhide HR⟩
      case measure => simp [intOf]; omega
    · have HSB2 := hide hsb
      have HBR := hide hbr
      clear hsa hsb hbr HSA HSB HW4
      go_wp2_with fail
      go_loopw [36] (fun c wr => ∃ t : Nat, t ≤ nb ∧ c = .int .i64 t ∧ SomeP w2.heap.size wr (.slice ab nb cb) nb ∧ Below w2.heap.size w2 wr) (fun c _ => nb - (intOf c).toNat)
      case atStart => exact ⟨0, by omega, rfl, unhide HSB2, unhide HBR⟩
      case round =>
        obtain ⟨s, hs, rfl, hsb, hbr⟩ := hrel
        by_cases hls : s < nb
        · obtain ⟨g, cap, x, e, _, c1, f1, hg, hs1⟩ := hsb.cell hls
          simp only [Value.slice.injEq, true_and] at e
          obtain ⟨rfl, rfl⟩ := e
          have HR : Hid (SomeP w2.heap.size (wr.setCell ⟨g, s * 3 + 2, none⟩ (.int .i64 (-9))) (.slice (some ⟨g, 0, none⟩) nb cb) nb ∧ Below w2.heap.size w2 (wr.setCell ⟨g, s * 3 + 2, none⟩ (.int .i64 (-9)))) := ⟨hs1, below_cell hbr hg⟩
          clear hsb hbr hs1 hg
          go_wp2
          go_roundw
          case rel => exact ⟨s + 1, by omega, by go_num, unhide HR⟩
          case measure => simp [intOf]; omega
        · have HBR2 := hide hbr
          obtain ⟨wd, rfl⟩ : ∃ x, x = wr := ⟨_, rfl⟩
          clear hsb hbr HSB2 HBR
          go_wp2_with (go_at_call 6; refine (unhide HSP _ (unhide HBR2)).mono ?_; rintro e w5 ⟨g, rfl, hpar, d5⟩; have HP5 := hide (And.intro hpar d5); clear hpar d5)
          obtain ⟨rows, hqi⟩ := (unhide HP5).1.spoilt
          have HQI := hide hqi
          have HWD := hide (unhide HP5).2
          clear hqi HP5
          go_wp2_with fail
          go_loopw [47] (fun c wr => ∃ p : Nat, p ≤ 3 ∧ c = .int .i64 p ∧ QI wd.heap.size wr g 3 rows ∧ Below wd.heap.size wd wr) (fun c _ => 3 - (intOf c).toNat)
          case atStart => exact ⟨0, by omega, rfl, unhide HQI, unhide HWD⟩
          case round =>
            obtain ⟨p, hp, rfl, hqi, hbr⟩ := hrel
            obtain ⟨we, rfl⟩ : ∃ x, x = wr := ⟨_, rfl⟩
            by_cases hlp : p < 3
            · have hpl : p < rows.length := by rw [hqi.len]; exact hlp
              have hrow : rows[p]? = some rows[p] := List.getElem?_eq_getElem hpl
              obtain ⟨n, hsk⟩ := hqi.own p _ hrow
              obtain ⟨ax, cx, ex, hcx, hmx⟩ := hsk.shape
              have hc1 : we.cell? ⟨g, p, none⟩ = some rows[p] := by
                rw [cell_at hqi.box]
                simp [hpl]
              rw [ex] at hc1 hrow hsk
              have HRW := hide hrow
              have HQ0 := hide (And.intro hqi (And.intro hsk hbr))
              clear hpl hrow hsk ex hqi hbr
              go_wp2_with fail
              go_loopw [53] (fun c wr => ∃ i : Nat, i ≤ n ∧ c = .int .i64 i ∧ QI wd.heap.size wr g 3 rows ∧ SomeK wd.heap.size wr (.slice ax n cx) n ∧ Below wd.heap.size wd wr) (fun c _ => n - (intOf c).toNat)
              case atStart => exact ⟨0, by omega, rfl, (unhide HQ0).1, (unhide HQ0).2.1, (unhide HQ0).2.2⟩
              case round =>
                obtain ⟨i, hi, rfl, hqi, hsk, hbr⟩ := hrel
                by_cases hli : i < n
                · obtain ⟨g', cap, x, e, _, c1, f1, hg, hs1, hq1⟩ := hqi.turn (unhide HRW) hsk hli
                  simp only [Value.slice.injEq, true_and] at e
                  obtain ⟨rfl, rfl⟩ := e
                  have HR : Hid (QI wd.heap.size (wr.setCell ⟨g', i * 2 + 1, none⟩ (.int .i64 (-9))) g 3 rows ∧ SomeK wd.heap.size (wr.setCell ⟨g', i * 2 + 1, none⟩ (.int .i64 (-9))) (.slice (some ⟨g', 0, none⟩) n cx) n ∧ Below wd.heap.size wd (wr.setCell ⟨g', i * 2 + 1, none⟩ (.int .i64 (-9)))) := ⟨hq1, hs1, below_cell hbr hg⟩
                  clear hqi hsk hbr hs1 hq1 hg
                  go_wp2
                  go_roundw
                  case rel => exact ⟨i + 1, by omega, by go_num, unhide HR⟩
                  case measure => simp [intOf]; omega
                · have HR := hide (And.intro hqi hbr)
                  clear hqi hsk hbr
                  go_wp2
                  go_roundw
                  case rel => exact ⟨p + 1, by omega, by go_num, unhide HR⟩
                  case measure => simp [intOf]; omega
            · have HBE : Hid (Below w2.heap.size w2 we) := (unhide HBR2).trans (hbr.mono (unhide HBR2).size)
              clear hqi hbr HQI HWD
              go_wp2_with fail
              refine (live_any we).mono ?_
              rintro e w6 ⟨rfl, hb6⟩
              have HB6 : Hid (Below w2.heap.size w2 w6) := (unhide HBE).trans (hb6.mono (unhide HBE).size)
              have HSK := hide (samekeys_yes (unhide HKC w6 (unhide HB6)).2 (unhide HKC w6 (unhide HB6)).1)
              clear hb6
              go_wp2_with fail
              refine (unhide HSK).mono ?_
              rintro e w7 ⟨rfl, hb7⟩
              have HB7 : Hid (Below w2.heap.size w2 w7) := (unhide HB6).trans (hb7.mono (unhide HB6).size)
              have HSQ := hide (samepairs_yes (unhide HPC w7 (unhide HB7)).2 (unhide HPC w7 (unhide HB7)).1)
              clear hb7
              go_wp2_with fail
              refine (unhide HSQ).mono ?_
              rintro e w8 ⟨rfl, hb8⟩
              have HB8 : Hid (Below w2.heap.size w2 w8) := (unhide HB7).trans (hb8.mono (unhide HB7).size)
              clear hb8
              go_wp2
              go_ret
              exact ⟨rfl, unhide HEND _ (unhide HB8)⟩
end Go.Proofs.Ytbajggmpklajnab
