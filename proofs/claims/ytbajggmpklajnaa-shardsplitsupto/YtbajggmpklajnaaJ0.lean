/- ShardSplits' walk. -/
import Derived.Test.YtbajggmpklajnaaI1
import Derived.Test.YtbajggmpklajnaaG3
namespace Go.Proofs.Ytbajggmpklajnaa
open Go.RowKit
set_option maxRecDepth 100000

theorem keep_blk {x z : World} {g : Nat} {o : Obj} (h : x.heap[g]? = some o) (hb : Below x.heap.size x z) : z.heap[g]? = some o := (hb.block g (Array.getElem?_eq_some_iff.1 h).1).trans h
set_option maxHeartbeats 6400000 in
theorem splits_walk {v u : Value} {l : List Ky} {qs : List Ls} {w : World} (n : Int) (hs : SeesL kC 2 w v l) (hok : ∀ k ∈ l, OkK k) (hll : l.length ≤ 8796093021952) (hq : SeesLs w u qs) (hoq : ∀ p ∈ allP qs, OkK p.1) (hlq : (allP qs).length ≤ 1048576) :
    Calls Try.prog 5 #[v, .int .i64 n, u] w fun e w' => e = .returned (.bool true) ∧ Below w.heap.size w w' := by
  have HL : Hid (∀ x, Below w.heap.size w x → SeesL kC 2 x v l) := fun x hx => hs.below kC_len hx
  have HQ : Hid (∀ x, Below w.heap.size w x → SeesLs x u qs) := fun x hx => hq.below hx
  have HOK := hide hok
  have HOQ := hide hoq
  have HLQ := hide hlq
  have HLL := hide hll
  have hmr := manyF_range n
  obtain ⟨m, hm⟩ : ∃ m, (manyF n).toNat = m := ⟨_, rfl⟩
  have hm8 : m ≤ 8 := by omega
  have HSA := hide (split_any n hs hok hll)
  have HSB : Hid (∀ x, Below w.heap.size w x → Calls Try.prog 29 #[.int .i64 n, v] x fun e w' => ∃ g, e = .returned (.slice (some ⟨g, 0, none⟩) m m) ∧ Parts x.heap.size w' g m (inP n (srt l)) ∧ Below x.heap.size x w') := fun x hx => hm ▸ rsplit_any n (unhide HL x hx) (unhide HLL)
  rw [hm] at HSA
  obtain ⟨av, cv, hv⟩ := hs.shape
  obtain ⟨au, cu, hu⟩ := hq.1.shape
  have hqm : qs.length ≤ 9223372036854775807 := by obtain ⟨_, _, _, _, _, _, h3, _⟩ := hq.1; exact h3
  obtain ⟨qn, hqn⟩ : ∃ k, qs.length = k := ⟨_, rfl⟩
  have HQN := hide hqn
  rw [hqn] at hqm hu
  subst hv hu
  clear hs hq hok hoq hll hlq hmr hm hqn
  go_enter Try.func5, Try.ntmps5
  go_wp2_with (first | (go_at_call 28; refine (unhide HSA).mono ?_; rintro e wa ⟨ga, rfl, hpa, hba⟩; have HPA := hide hpa; have HBA := hide hba; clear hpa hba) | (go_at_call 29; refine (unhide HSB _ (unhide HBA)).mono ?_; rintro e wb ⟨gb, rfl, hpb, hbb⟩; have HPB := hide hpb; have HBB := hide hbb; clear hpb hbb))
  have HWB : Hid (Below w.heap.size w wb) := (unhide HBA).trans ((unhide HBB).mono (unhide HBA).size)
  refine (live_from (Below.refl wb.heap.size wb)).mono ?_
  rintro e wc ⟨rfl, hbc⟩
  obtain ⟨rA, hrA⟩ : ∃ rows : List Value, rows.length = m ∧ ∀ x, Below wb.heap.size wb x → x.heap[ga]? = some (.cells rows.toArray 32) ∧ ∀ (p : Nat) (u : Value), rows[p]? = some u → SeesL kC 2 x u (inP n (srt l) p) := by
    obtain ⟨_, rows, h1, h2, h3, _⟩ := unhide HPA
    refine ⟨rows, h1, fun x hx => ?_⟩
    have hax : Below wa.heap.size wa x := (unhide HBB).trans (hx.mono (unhide HBB).size)
    exact ⟨keep_blk h2 hax, fun p u hu => ((own_sees kC_len (by decide) (h3 p u hu)).2).below kC_len hax⟩
  obtain ⟨rB, hrB⟩ : ∃ rows : List Value, rows.length = m ∧ ∀ x, Below wb.heap.size wb x → x.heap[gb]? = some (.cells rows.toArray 32) ∧ ∀ (p : Nat) (u : Value), rows[p]? = some u → SeesL kC 2 x u (inP n (srt l) p) := by
    obtain ⟨_, rows, h1, h2, h3, _⟩ := unhide HPB
    exact ⟨rows, h1, fun x hx => ⟨keep_blk h2 hx, fun p u hu => ((own_sees kC_len (by decide) (h3 p u hu)).2).below kC_len hx⟩⟩
  have HRA := hide hrA
  have HRB := hide hrB
  have HBC := hide hbc
  clear hrA hrB hbc
  go_wp2_with fail
  go_loopw [30] (fun c wr => ∃ t : Nat, t ≤ m ∧ c = .int .i64 t ∧ Below wb.heap.size wb wr) (fun c _ => m - (intOf c).toNat)
  case atStart => exact ⟨0, by omega, rfl, unhide HBC⟩
  case round =>
    obtain ⟨t, ht, rfl, hbr⟩ := hrel
    have HBR := hide hbr
    by_cases hlt : t < m
    · obtain ⟨la, fa⟩ := unhide HRA
      obtain ⟨lb, fb⟩ := unhide HRB
      have tA : t < rA.length := by omega
      have tB : t < rB.length := by omega
      have HCE : Hid (∀ x, Below wb.heap.size wb x → x.cell? ⟨ga, t, none⟩ = some rA[t] ∧ x.cell? ⟨gb, t, none⟩ = some rB[t]) := fun x hx => ⟨by rw [cell_at (fa x hx).1]; simp [tA], by rw [cell_at (fb x hx).1]; simp [tB]⟩
      have HSK : Hid (∀ x, Below wb.heap.size wb x → Calls Try.prog 18 #[rA[t], rB[t]] x fun e w' => e = .returned (.bool true) ∧ Below wb.heap.size wb w') := fun x hx => samekeys_from ((fa x hx).2 t _ (List.getElem?_eq_getElem tA)) ((fb x hx).2 t _ (List.getElem?_eq_getElem tB)) hx
      obtain ⟨aa, ca, ea⟩ := ((fa wr hbr).2 t _ (List.getElem?_eq_getElem tA)).shape
      obtain ⟨ab, cb, eb⟩ := ((fb wr hbr).2 t _ (List.getElem?_eq_getElem tB)).shape
      rw [ea, eb] at HCE HSK
      obtain ⟨pn, hpn⟩ : ∃ k, (inP n (srt l) t).length = k := ⟨_, rfl⟩
      rw [hpn] at HCE HSK
      clear la lb fa fb tA tB ea eb hpn hbr
      go_wp2_with fail
      refine wp_region_held_drew (S := fun x => Below wb.heap.size wb x) (by kernel_rfl) (unhide HBR).drew (fun hHeld => ?_)
      refine wpAnyH_take (i := 0) (v := ?v1x0) rfl (by kernel_rfl) (by kernel_rfl) (by kernel_rfl) (fun _ _ _ h => h) (Or.inl ⟨by rfl, ?hy1x0⟩) (by assumption) ?rest1x0
      case hy1x0 => intro w hSw; go_simp <;> with_reducible rfl
      simp only [Act.put, List.getElem_toArray, List.getElem_cons_zero, List.setIfInBounds_toArray, List.set_cons_zero, List.set_cons_succ]
      refine wpAnyH_take (i := 1) (v := ?v2x1) rfl (by kernel_rfl) (by kernel_rfl) (by kernel_rfl) (fun _ _ _ h => h) (Or.inl ⟨by rfl, ?hy2x1⟩) (by assumption) ?rest2x1
      case hy2x1 => intro w hSw; go_simp <;> with_reducible rfl
      simp only [Act.put, List.getElem_toArray, List.getElem_cons_zero, List.getElem_cons_succ, List.setIfInBounds_toArray, List.set_cons_zero, List.set_cons_succ]
      refine wpAnyH_take (i := 2) (v := ?v3x2) rfl (by kernel_rfl) (by kernel_rfl) (by kernel_rfl) (fun _ _ _ h => h) (Or.inl ⟨by rfl, ?hy3x2⟩) (by assumption) ?rest3x2
      case hy3x2 => intro w hSw; go_simp <;> with_reducible rfl
      simp only [Act.put, List.getElem_toArray, List.getElem_cons_zero, List.getElem_cons_succ, List.setIfInBounds_toArray, List.set_cons_zero, List.set_cons_succ]
      refine wpAnyH_take (i := 3) (v := (.slice aa pn ca)) rfl (by kernel_rfl) (by kernel_rfl) (by kernel_rfl) (fun _ _ _ h => h) (Or.inl ⟨by rfl, ?hy4x3⟩) (by assumption) ?rest4x3
      case hy4x3 => intro w hSw; obtain ⟨s1, s2⟩ := unhide HCE _ hSw; go_simp <;> with_reducible rfl
      simp only [Act.put, List.getElem_toArray, List.getElem_cons_zero, List.getElem_cons_succ, List.setIfInBounds_toArray, List.set_cons_zero, List.set_cons_succ]
      refine wpAnyH_take (i := 4) (v := ?v5x4) rfl (by kernel_rfl) (by kernel_rfl) (by kernel_rfl) (fun _ _ _ h => h) (Or.inl ⟨by rfl, ?hy5x4⟩) (by assumption) ?rest5x4
      case hy5x4 => intro w hSw; go_simp <;> with_reducible rfl
      simp only [Act.put, List.getElem_toArray, List.getElem_cons_zero, List.getElem_cons_succ, List.setIfInBounds_toArray, List.set_cons_zero, List.set_cons_succ]
      refine wpAnyH_take (i := 5) (v := ?v6x5) rfl (by kernel_rfl) (by kernel_rfl) (by kernel_rfl) (fun _ _ _ h => h) (Or.inl ⟨by rfl, ?hy6x5⟩) (by assumption) ?rest6x5
      case hy6x5 => intro w hSw; go_simp <;> with_reducible rfl
      simp only [Act.put, List.getElem_toArray, List.getElem_cons_zero, List.getElem_cons_succ, List.setIfInBounds_toArray, List.set_cons_zero, List.set_cons_succ]
      refine wpAnyH_take (i := 6) (v := ?v7x6) rfl (by kernel_rfl) (by kernel_rfl) (by kernel_rfl) (fun _ _ _ h => h) (Or.inl ⟨by rfl, ?hy7x6⟩) (by assumption) ?rest7x6
      case hy7x6 => intro w hSw; go_simp <;> with_reducible rfl
      simp only [Act.put, List.getElem_toArray, List.getElem_cons_zero, List.getElem_cons_succ, List.setIfInBounds_toArray, List.set_cons_zero, List.set_cons_succ]
      refine wpAnyH_take (i := 7) (v := (.slice ab pn cb)) rfl (by kernel_rfl) (by kernel_rfl) (by kernel_rfl) (fun _ _ _ h => h) (Or.inl ⟨by rfl, ?hy8x7⟩) (by assumption) ?rest8x7
      case hy8x7 => intro w hSw; obtain ⟨s1, s2⟩ := unhide HCE _ hSw; go_simp <;> with_reducible rfl
      simp only [Act.put, List.getElem_toArray, List.getElem_cons_zero, List.getElem_cons_succ, List.setIfInBounds_toArray, List.set_cons_zero, List.set_cons_succ]
      refine wpAnyH_ready (rs := [8]) (by kernel_rfl) (by simp) ?_
      refine AllReadyH.cons rfl (fun K hK => ?_) AllReadyH.nil
      go_simp
      refine (unhide HSK _ (by assumption)).mono ?_
      rintro e wq ⟨rfl, hb1⟩
      refine hK _ _ hb1 ?_
      clear hK hHeld
      intro hHeld
      refine wpAnyH_take (i := 9) (v := (.bool false)) rfl (by kernel_rfl) (by kernel_rfl) (by kernel_rfl) (fun _ _ _ h => h) (Or.inl ⟨by rfl, ?hy9x9⟩) (by assumption) ?rest9x9
      case hy9x9 => intro w hSw; go_simp <;> with_reducible rfl
      simp only [Act.put, List.getElem_toArray, List.getElem_cons_zero, List.getElem_cons_succ, List.setIfInBounds_toArray, List.set_cons_zero, List.set_cons_succ]
      refine wpAnyH_done (by kernel_rfl) ?_ _
      go_wp2
      go_roundw
      case rel => exact ⟨t + 1, by omega, by go_num, hb1⟩
      case measure => simp [intOf]; omega
    · obtain rfl : t = m := by omega
      obtain ⟨wd, rfl⟩ : ∃ x, x = wr := ⟨_, rfl⟩
      have HWD : Hid (Below w.heap.size w wd) := (unhide HWB).trans (hbr.mono (unhide HWB).size)
      clear hbr HRA HRB HPA HPB HSA HSB
      go_wp2_with fail
      go_loopw [10, 46] (fun o c wr => ∃ t : Nat, t ≤ qn ∧ c = .int .i64 t ∧ wr.ownsRow wd.heap.size 66 3 o (allP (qs.take t)).length ((allP (qs.take t)).flatMap pC) ∧ Below wd.heap.size wd wr) (fun _ c _ => qn - (intOf c).toNat)
      case atStart => exact ⟨0, by omega, rfl, own_nil _ _ _ _, Below.refl _ _⟩
      case round =>
        obtain ⟨s, hsn, rfl, hown, hbr⟩ := hrel
        have HBR := hide hbr
        have hbw : Below w.heap.size w wr := (unhide HWD).trans (hbr.mono (unhide HWD).size)
        by_cases hlt2 : s < qn
        · have hqn := unhide HQN
          have hsl : s < qs.length := by omega
          have hq := unhide HQ wr hbw
          obtain ⟨lv, hlv⟩ : ∃ q, qs[s] = q := ⟨_, rfl⟩
          have hqv := hq.2 lv (hlv ▸ List.getElem_mem hsl)
          have hcell : ∃ gc oc, au = some ⟨gc, oc, none⟩ ∧ wr.cell? ⟨gc, oc + s, none⟩ = some lv.1 := by
            obtain ⟨ao', cap', gc, oc, e, _, _, _, h5, h6⟩ := hq.1
            simp only [Value.slice.injEq] at e
            obtain ⟨rfl, _, rfl⟩ := e
            refine ⟨gc, oc, h5 (by omega), ?_⟩
            have := h6 s lv (by rw [List.getElem?_eq_getElem hsl, hlv]) 0 (by omega)
            rw [Nat.mul_one, Nat.add_zero] at this
            exact this
          obtain ⟨gc, oc, hau, hc1⟩ := hcell
          subst hau
          have htk : allP (qs.take (s + 1)) = allP (qs.take s) ++ lv.2 := by
            rw [List.take_succ_eq_append_getElem hsl, hlv]
            simp [allP]
          have hlen : (allP (qs.take s)).length + lv.2.length ≤ 1048576 := by
            have h1 : (allP (qs.take (s + 1))).length ≤ (allP qs).length := by
              have e : allP qs = allP (qs.take (s + 1)) ++ allP (qs.drop (s + 1)) := by
                unfold allP
                rw [← List.flatMap_append, List.take_append_drop]
              rw [e]
              simp
            have h2 := unhide HLQ
            rw [htk, List.length_append] at h1
            omega
          obtain ⟨ao, cap, y5, r1, o5, b5⟩ := app_pairs 33 hown hqv (by omega) hbr.size
          obtain ⟨ov, oc', hov⟩ := own_shape hown
          have HR : Hid (y5.ownsRow wd.heap.size 66 3 (.slice ao ((allP (qs.take s)).length + lv.2.length) cap) (allP (qs.take (s + 1))).length ((allP (qs.take (s + 1))).flatMap pC) ∧ Below wd.heap.size wd y5) := by
            rw [htk, List.length_append]
            exact ⟨o5, hbr.trans b5⟩
          obtain ⟨al, cl, hsh⟩ := hqv.shape
          obtain ⟨lvv, L⟩ := lv
          simp only at hsh hc1 r1 HR
          rw [hsh] at hc1 r1
          rw [hov] at r1
          obtain ⟨n1, hn1⟩ : ∃ k, (allP (qs.take s)).length = k := ⟨_, rfl⟩
          obtain ⟨n2, hn2⟩ : ∃ k, L.length = k := ⟨_, rfl⟩
          rw [hn1] at hov
          rw [hn1, hn2] at r1 HR
          rw [hn2] at hc1
          subst hov
          clear hqn hsl hq hlv hqv htk hlen hown o5 b5 hsh hbr hbw hn1 hn2
          go_wp2_with (refine wpList_append_wanted (by rfl) _ _ 33 rfl rfl rfl r1 ?_)
          go_roundw
          case rel => exact ⟨s + 1, by omega, by go_num, unhide HR⟩
          case measure => simp [intOf]; omega
        · obtain rfl : s = qn := by omega
          have hqn := unhide HQN
          have e : qs.take s = qs := List.take_of_length_le (by omega)
          rw [e] at hown
          have hl := unhide HLQ
          have HME := hide (merge_any (unhide HQ wr hbw) (unhide HOQ) (by omega))
          have HSO : Hid (∀ x, Below wr.heap.size wr x → ∀ vv, wr.ownsRow wd.heap.size 66 3 vv (allP qs).length ((allP qs).flatMap pC) → Calls Try.prog 23 #[vv] x fun e w' => ∃ r, e = .returned r ∧ w'.ownsRow x.heap.size 66 3 r (srtP (allP qs)).length ((srtP (allP qs)).flatMap pC) ∧ Below x.heap.size x w') := fun x hx vv ho => rpairs_any ((own_sees pC_len (by decide) ho).2.below pC_len hx) (by omega)
          have HOW := hide hown
          have HBW := hide hbw
          obtain ⟨ov, oc', hov⟩ := own_shape hown
          obtain ⟨n1, hn1⟩ : ∃ k, (allP qs).length = k := ⟨_, rfl⟩
          rw [hn1] at hov
          subst hov
          clear hqn e hown hl hbr hbw hn1
          go_wp2_with (go_at_call 30; refine (unhide HME).mono ?_; rintro e w5 ⟨r5, rfl, o5, d5⟩; have HO5 := hide (And.intro o5 d5); clear o5 d5)
          refine (unhide HSO _ (unhide HO5).2 _ (unhide HOW)).mono ?_
          rintro e w6 ⟨r6, rfl, o6, d6⟩
          have hw6 : Below w.heap.size w w6 := (unhide HBW).trans ((unhide HO5).2.mono (unhide HBW).size |>.trans (d6.mono (Nat.le_trans (unhide HBW).size (unhide HO5).2.size)))
          have HF := hide (samepairs_from (own_sees pC_len (by decide) (own_below (unhide HO5).1 d6)).2 (own_sees pC_len (by decide) o6).2 (Below.refl w6.heap.size w6))
          obtain ⟨a5, c5, e5⟩ := own_shape (unhide HO5).1
          obtain ⟨a6, c6, e6⟩ := own_shape o6
          subst e5 e6
          have HW6 := hide hw6
          clear o6 d6 hw6
          go_wp2_with (go_at_call 21; refine (unhide HF).mono ?_; rintro e w7 ⟨rfl, hb7⟩; have HB7 := hide hb7; clear hb7)
          go_ret
          exact ⟨rfl, (unhide HW6).trans ((unhide HB7).mono (unhide HW6).size)⟩
end Go.Proofs.Ytbajggmpklajnaa
