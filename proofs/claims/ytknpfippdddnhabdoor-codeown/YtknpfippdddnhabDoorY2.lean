/- Reach. -/
import Derived.Test.YtknpfippdddnhabDoorY1
namespace Go.Proofs.YtknpfippdddnhabDoor
open Go.RowKit Go.Shelf
attribute [local go_sem] Tryd.zeroValue59 Tryd.zeroCells59_size
attribute [local simp] Tryd.zeroCells59_ne
set_option maxRecDepth 100000

theorem last_of {T : List Int} (h : 0 < T.length) : ∃ T' p, T = T' ++ [p] := by
  refine ⟨T.dropLast, T.getLast (by rintro rfl; simp at h), ?_⟩
  rw [List.dropLast_concat_getLast]
theorem oneX_ok {l : List Int} {p : Nat} (h : oneE l p = 0) : oneX l p = rd l p := by unfold oneX; rw [if_pos h, Int.toNat_natCast]
/-- Reach's start. -/
theorem RC.start {w w1 : World} {l : List Int} (hb : Below w.heap.size w w1) (hdec : (dec l).2 = 0) : RC w l w1.heap.size ((w1.alloc (.cells Tryd.zeroCells59 59)).alloc (.cells #[.int .i64 0] 3)) (.slice (some ⟨w1.heap.size + 1, 0, none⟩) 1 1) [0] (fun _ => false) := by
  have ho := own_sees (w := w1) (c := nC) (k := 1) (base := 0) (e := 3) (n := 0) (l := []) nC_len (by decide) (own_nil _ _ _ _)
  refine ⟨(hb.alloc hb.size _).alloc (by have := hb.size; simp; omega) _, hb.size, ?_, ?_, fun p h => (by cases h), fun q hq => ?_, fun p h => (by cases h), .inr (.inr (by simp)), by simp⟩
  · refine ⟨rfl, .inr ⟨w1.heap.size + 1, 1, #[.int .i64 0], rfl, Nat.le_refl _, ?_, Nat.le_refl _, by unfold maxLen; omega, rfl, rfl⟩⟩
    have := heap_alloc_new (w1.alloc (.cells Tryd.zeroCells59 59)) (.cells #[.int .i64 0] 3)
    simpa using this
  · rw [Below.heap_alloc _ _ _ (by simp), cmA_zero]
    exact heap_alloc_new w1 _
  · obtain rfl : q = 0 := by simpa using hq
    exact ⟨Int.le_refl _, ok_zero hdec, Rch.zero⟩
theorem own_at {w : World} {base n : Nat} {v : Value} {T : List Int} (h : w.ownsRow base 3 1 v n (T.flatMap nC)) : n = T.length ∧ ∃ ao cap, v = .slice ao n cap ∧ ∀ u x, T[u]? = some x → ∃ g, ao = some ⟨g, 0, none⟩ ∧ w.cell? ⟨g, u, none⟩ = some (.int .i64 x) := by
  obtain ⟨hn, hse⟩ := own_sees nC_len (by decide) h
  refine ⟨hn, ?_⟩
  obtain ⟨ao, cap, rfl⟩ := own_shape h
  refine ⟨ao, cap, rfl, fun u x hx => ?_⟩
  have hu : u < T.length := (List.getElem?_eq_some_iff.1 hx).1
  rcases h.2 with ⟨h1, h2⟩ | ⟨g, _, cur, hv, _, hg, _, _, _, ht⟩
  · omega
  · simp only [Value.slice.injEq, true_and] at hv
    obtain ⟨rfl, rfl⟩ := hv
    refine ⟨g, rfl, ?_⟩
    have e : ∀ l : List Int, l.flatMap nC = l.map fun x => .int .i64 x := fun l => by induction l with
      | nil => rfl
      | cons x r ih => rw [List.flatMap_cons, List.map_cons, ih]; rfl
    rw [cell_at hg]
    rw [e] at ht
    have h3 : (cur.toList.take (n * 1))[u]? = some (.int .i64 x) := by rw [ht, List.getElem?_map, hx]; rfl
    rw [List.getElem?_take_of_lt (by omega)] at h3
    simpa using h3
theorem idx77 (C : Nat → Bool) (i : Nat) (hi : i < 512) (w : World) : (Instr.index 59 (.agg (cmA C)) (.int .i64 i)).run Tryd.prog w = .ok (.bool (C i)) w := by
  simp [Instr.index, run_underlying Tryd.underlying59, part, go_sem, cmA_get C i hi]
  omega
theorem inf77 : (Tryd.prog.info? 59).map (·.size) = some 512 := by kernel_rfl
/-- The first numbers that are marked. -/
def rcN (C : Nat → Bool) (j : Nat) : List Int := ((List.range j).filter C).map fun i : Nat => (i : Int)
theorem rcN_yes {C : Nat → Bool} {j : Nat} (h : C j = true) : rcN C (j + 1) = rcN C j ++ [(j : Int)] := by
  unfold rcN
  rw [List.range_succ, List.filter_append, List.map_append]
  simp [h]
theorem rcN_no {C : Nat → Bool} {j : Nat} (h : C j = false) : rcN C (j + 1) = rcN C j := by
  unfold rcN
  rw [List.range_succ, List.filter_append, List.map_append]
  simp [h]
theorem rcN_len (C : Nat → Bool) (j : Nat) : (rcN C j).length ≤ j := by
  unfold rcN
  rw [List.length_map]
  exact Nat.le_trans (List.length_filter_le _ _) (by simp)
/-- What Reach ends with. -/
def RhR (w : World) (l : List Int) (e : Ending) (w' : World) : Prop := ∃ x R, e = .returned x ∧ w'.ownsRow w.heap.size 3 1 x R.length (R.flatMap nC) ∧ Below w.heap.size w w' ∧ ((dec l).2 ≠ 0 → R = []) ∧ ((dec l).2 = 0 → ∃ C : Nat → Bool, (∀ i, C i = true ↔ Rch l i ∧ i < l.length) ∧ R = rcN C 512)
set_option maxHeartbeats 3200000 in
theorem reach_any {w : World} {v : Value} {l : List Int} (hT : Tab w) (hs : SeesL yC 1 w v l) (hby : Byt l) :
    Calls Tryd.prog 25 #[v] w fun e w' => RhR w l e w' := by
  have HD := hide (decode_any hT hs hby)
  have HT := hide hT
  have HS := hide hs
  obtain ⟨ao, cap, rfl⟩ := hs.shape
  by_cases he : (dec l).2 = 0
  · obtain ⟨hl512, -, -⟩ := dec_ok he
    rw [he] at HD
    have HE := hide he
    obtain ⟨n, hn⟩ : ∃ n, l.length = n := ⟨_, rfl⟩
    rw [hn] at HS HD hl512 ⊢
    have HN := hide hn
    clear hT hs hn he
    go_enter Tryd.func25, Tryd.ntmps25
    go_wp2_with (go_at_call 5; refine (unhide HD).mono ?_; rintro e w1 ⟨x, rfl, hb, -⟩; have HST := hide (RC.start hb (unhide HE)); have HB := hide hb; clear hb)
    go_loopw [6] (fun c z => ∃ (T : List Int) (C : Nat → Bool), RC w l w1.heap.size z c T C) (fun c z => 3 * (512 - cntZ w1.heap.size z) + lenV c)
    case atStart => exact ⟨_, _, unhide HST⟩
    case round =>
      obtain ⟨z, rfl⟩ : ∃ z, z = wr := ⟨_, rfl⟩
      obtain ⟨T, C, hR⟩ := hrel
      have HR := hide hR
      by_cases ht : 0 < T.length
      · obtain ⟨T', p, rfl⟩ := last_of ht
        obtain ⟨hp0, hpo, -⟩ := hR.todo p (List.mem_append_right _ (List.mem_singleton_self _))
        obtain ⟨q, rfl⟩ := Int.eq_ofNat_of_zero_le hp0
        rw [Int.toNat_natCast] at hpo
        obtain ⟨-, ao3, cap3, hv3, hat⟩ := own_at hR.own
        obtain ⟨g, rfl, hcl⟩ := hat T'.length (q : Int) (by simp)
        rw [List.length_append, List.length_singleton] at hv3
        have hcap : T'.length + 1 ≤ cap3 := by
          have ho := hR.own
          rw [hv3] at ho
          rcases ho.2 with ⟨h1, _⟩ | ⟨_, _, _, hv, _, _, h2, _⟩
          · cases h1
          · simp only [Value.slice.injEq] at hv
            obtain ⟨-, -, rfl⟩ := hv
            simpa using h2
        have hkm : T'.length ≤ 1024 := by
          have := hR.len
          have := cnt_le C
          simp at *
          omega
        have hcm := hR.come
        subst hv3
        have HSK := hide fun h => hR.skip (T := T') (p := (q : Int)) h
        have hq1 := hpo.1
        rw [unhide HN] at hq1
        have HMK := hide fun (hq : q < l.length) hc z2 v2 hb2 hs2 => hR.mark1 (z2 := z2) (v2 := v2) hby (unhide HE) hq hc hb2 hs2
        have HZ := hide (And.intro (hR.bel) (hR.wB))
        have HPO := hide hpo
        obtain ⟨k, hk⟩ : ∃ k, T'.length = k := ⟨_, rfl⟩
        rw [hk] at hcl hcap hkm HSK HMK HR ⊢
        have HH : Hid (∀ w, (Instr.slice 53 (.slice (some ⟨g, 0, none⟩) (k + 1) cap3) none (some (.int .i64 k)) none).run Tryd.prog w = .ok (.slice (some ⟨g, 0, none⟩) k cap3) w) := fun w => rtN.head _ _ _ _ (by omega) w
        have HK := hide hk
        clear hat hR hp0 hpo ht hk hcap
        by_cases hqn : q = n
        · subst hqn
          have hqq : ((q : Int) == (q : Int)) = true := by simp
          clear hcm
          go_wp2_with ((with_reducible show wpList _ _ _ (_ :: _) _ _); refine wpList_slice_wanted (by rfl) Tryd.underlying53 rfl rfl (unhide HH _) ?_)
          go_roundw
          case rel => exact ⟨T', C, unhide HSK (.inl (by rw [unhide HN]; simp))⟩
          case measure => simp [lenV]
        · have hqq : ((q : Int) == (n : Int)) = false := by simp; omega
          have hq2 : q < n := by omega
          have hq3 : q < 512 := by omega
          have HQ : Hid (q < l.length) := by rw [unhide HN]; exact hq2
          have hzf := frozen_of_heap (o := q) hcm
          have hcq : z.cell? ⟨w1.heap.size, q, none⟩ = some (.bool (C q)) := by rw [cell_at hcm, cmA_get C q hq3]
          by_cases hc : C q = true
          · rw [hc] at hcq
            have HCQ := hide hc
            clear hcm hc hzf
            go_wp2_with ((with_reducible show wpList _ _ _ (_ :: _) _ _); refine wpList_slice_wanted (by rfl) Tryd.underlying53 rfl rfl (unhide HH _) ?_)
            go_roundw
            case rel => exact ⟨T', C, unhide HSK (.inr (by rw [Int.toNat_natCast]; exact unhide HCQ))⟩
            case measure => simp [lenV]
          · have hcf : C q = false := by simpa using hc
            rw [hcf] at hcq
            obtain ⟨h0, hm⟩ := (unhide HPO).2 (unhide HQ)
            rcases hX : rd l q with ⟨xd, xo, xa, xb, xm⟩
            have hok := oneE_ok h0
            have e1 : xo = l.getD q 0 := by have := congrArg Ins.op hX; exact this.symm
            have e2 : xd = q := by have := congrArg Ins.ad hX; exact this.symm
            have hbz : Below w.heap.size w (z.setCell ⟨w1.heap.size, q, none⟩ (.bool true)) := (unhide HZ).1.setCell (p := ⟨w1.heap.size, q, none⟩) (unhide HZ).2 _
            have hTz := (unhide HT).below hbz (unhide HT).pos
            have hone := one_any (q : Int) hTz ((unhide HS).below yC_len hbz) hby (by rw [unhide HN]; omega)
            rw [oneX_ok h0, hX, h0] at hone
            obtain ⟨N, hN⟩ : ∃ N, oneN l (q : Int) = N := ⟨_, rfl⟩
            rw [hN] at hone
            have HONE := hide hone
            have HMK2 := hide fun z2 v2 hb2 hs2 => unhide HMK (unhide HQ) hcf z2 v2 hb2 hs2
            rw [hX] at HMK2
            have HONW : Hid (∀ z, Tab z → Calls Tryd.prog 36 #[iV xd xo xa xb xm] z fun e w' => ∃ v, e = .returned v ∧ SeesL nC 1 w' v (onw ⟨xd, xo, xa, xb, xm⟩) ∧ Below z.heap.size z w') := fun z hz => onward_any xd xo xa xb xm z hz (by rw [e1]; exact hok.2.1) (by rw [e1]; exact hok.2.2.1) (by omega) (by omega)
            have hsz : (z.setCell ⟨w1.heap.size, q, none⟩ (.bool true)).heap.size = z.heap.size := by simp [World.setCell]
            have HTB : Hid (∀ z1 o, Below (z.setCell ⟨w1.heap.size, q, none⟩ (.bool true)).heap.size (z.setCell ⟨w1.heap.size, q, none⟩ (.bool true)) z1 → Tab (z1.alloc o)) := fun z1 o hb => (hTz.below hb (by rw [hsz]; have := hTz.pos; rw [hsz] at this; exact this)).below (below_box o) (by have := hb.size; have := hTz.pos; omega)
            have HBL : Hid (∀ z1 z2 o, Below (z.setCell ⟨w1.heap.size, q, none⟩ (.bool true)).heap.size (z.setCell ⟨w1.heap.size, q, none⟩ (.bool true)) z1 → Below (z1.alloc o).heap.size (z1.alloc o) z2 → Below z.heap.size (z.setCell ⟨w1.heap.size, q, none⟩ (.bool true)) z2) := fun z1 z2 o h1 h2 => by
              rw [hsz] at h1
              exact (h1.alloc (by have := h1.size; omega) o).trans (h2.mono (by have := h1.size; rw [hsz] at this; simp; omega))
            have HCF := hide hcf
            have HCM := hide hcm
            have HHX := hide hX
            clear hcm hc hcf hone hN hTz hbz e1 e2 hok h0 hm hsz hX
            go_wp2_with (first
              | (go_at_call 35; refine (unhide HONE).mono ?_; rintro e z1 ⟨rfl, hb1⟩; have HB1 := hide hb1; clear hb1)
              | (go_at_call 36; refine (unhide HONW _ (unhide HTB z1 _ (unhide HB1))).mono ?_; rintro e z2 ⟨v2, rfl, hs2, hb2⟩; obtain ⟨a3, c3, z3, hr3, hR3⟩ := unhide HMK2 z2 v2 (unhide HBL _ _ _ (unhide HB1) hb2) hs2; have HR3 := hide hr3; have HRC := hide hR3; clear hr3 hR3 hs2 hb2)
              | ((with_reducible show wpList _ _ _ (_ :: _) _ _); refine wpList_append_wanted (by rfl) _ _ 53 rfl rfl rfl (unhide HR3) ?_)
              | ((with_reducible show wpList _ _ _ (_ :: _) _ _); refine wpList_slice_wanted (by rfl) Tryd.underlying53 rfl rfl (unhide HH _) ?_))
            go_roundw
            case rel => exact ⟨_, _, unhide HRC⟩
            case measure =>
              have c1 := cntZ_eq (unhide HRC).come
              have c2 := cntZ_eq (unhide HCM)
              have c3 := cnt_mk (C := C) (p := q) hq3 (unhide HCF)
              have c4 := onw_len ⟨xd, xo, xa, xb, xm⟩
              have c5 := cnt_le (mk1 C q)
              rw [c1, c2]
              simp only [lenV]
              omega
      · obtain rfl : T = [] := List.eq_nil_of_length_eq_zero (by omega)
        obtain ⟨ao3, cap3, hv3⟩ := own_shape hR.own
        simp only [List.length_nil] at hv3
        subst hv3
        have hdn := hR.done
        have hcm := hR.come
        have HBZ := hide hR.bel
        have HDN := hide hdn
        have HCM := hide hcm
        have hinf : (Tryd.prog.info? 59).map (·.size) = some (cmA C).size := by rw [cmA_size]; exact inf77
        have HI := hide hinf
        clear hR hdn hcm ht hinf HR
        go_wp2_with ((with_reducible show wpList _ _ _ (_ :: _) _ _); refine wpList_load_row (by rfl) 59 _ rfl w1.heap.size rfl 59 (cmA C) _ _ (unhide HCM) Tryd.underlying59 rfl (unhide HI) ?_)
        go_loopw [11, 59] (fun x c y => ∃ j : Nat, j ≤ 512 ∧ c = .int .i64 j ∧ y.ownsRow z.heap.size 3 1 x (rcN C j).length ((rcN C j).flatMap nC) ∧ Below z.heap.size z y) (fun _ c _ => 512 - (intOf c).toNat)
        case atStart => exact ⟨0, by omega, rfl, own_nil _ _ _ _, Below.refl _ _⟩
        case round =>
          obtain ⟨y, rfl⟩ : ∃ y, y = wr := ⟨_, rfl⟩
          obtain ⟨j, hj, rfl, hown, hbl⟩ := hrel
          obtain ⟨ao4, cap4, rfl⟩ := own_shape hown
          have HOW := hide hown
          have HBL := hide hbl
          by_cases hj5 : j < 512
          · have hj6 : (j : Int) < 512 := by omega
            have hlen := rcN_len C j
            by_cases hc : C j = true
            · have hix : ∀ w, (Instr.index 59 (.agg (cmA C)) (.int .i64 j)).run Tryd.prog w = .ok (.bool true) w := fun w => by rw [idx77 C j hj5, hc]
              obtain ⟨a5, c5, y5, hr, ho5, hb5⟩ := rtN.app (l := rcN C j) 53 (hown.alloc (.cells #[.int .i64 j] 3)) (sees_oneN y (j : Int)) (by simp; omega) (by simp; omega) (by have := hbl.size; simp; omega)
              rw [← rcN_yes hc] at ho5
              have e5 : (rcN C j).length + [(j : Int)].length = (rcN C (j + 1)).length := by rw [rcN_yes hc, List.length_append]
              rw [e5] at hr ho5
              have HRN := hide hr
              have HO5 := hide ho5
              have HB5 : Hid (Below z.heap.size z y5) := hbl.trans ((Below.refl _ _).alloc hbl.size (.cells #[.int .i64 j] 3) |>.trans hb5)
              clear hr ho5 hb5 e5 hown hbl hc hlen
              go_wp2_with ((with_reducible show wpList _ _ _ (_ :: _) _ _); refine wpList_append_wanted (by rfl) _ _ 53 rfl rfl rfl (unhide HRN) ?_)
              go_roundw
              case rel => exact ⟨j + 1, by omega, by go_num, unhide HO5, unhide HB5⟩
              case measure => simp [intOf]; omega
            · have hcf : C j = false := by simpa using hc
              have hix : ∀ w, (Instr.index 59 (.agg (cmA C)) (.int .i64 j)).run Tryd.prog w = .ok (.bool false) w := fun w => by rw [idx77 C j hj5, hcf]
              have HE5 := hide (rcN_no hcf)
              clear hown hbl hc hcf hlen
              go_wp2
              go_roundw
              case rel => exact ⟨j + 1, by omega, by go_num, by rw [unhide HE5]; exact unhide HOW, unhide HBL⟩
              case measure => simp [intOf]; omega
          · obtain rfl : j = 512 := by omega
            clear hown hbl
            go_wp2
            go_ret
            exact ⟨_, rcN C 512, rfl, own_mono (unhide HOW) (unhide HBZ).size, (unhide HBZ).trans ((unhide HBL).mono (unhide HBZ).size), fun h => absurd (unhide HE) h, fun _ => ⟨C, unhide HDN, rfl⟩⟩
  · have hne : ((dec l).2 == 0) = false := by simpa using he
    have hne2 : ((dec l).2 != 0) = true := by simpa using he
    have HNE := hide he
    obtain ⟨D, hD⟩ : ∃ D, (dec l).2 = D := ⟨_, rfl⟩
    rw [hD] at HD hne hne2
    obtain ⟨n, hn⟩ : ∃ n, l.length = n := ⟨_, rfl⟩
    rw [hn] at HS HD ⊢
    clear hT hs hn he hD
    go_enter Tryd.func25, Tryd.ntmps25
    go_wp2_with (go_at_call 5; refine (unhide HD).mono ?_; rintro e w1 ⟨x, rfl, hb, -⟩; have HB := hide hb; clear hb)
    go_ret
    exact ⟨_, [], rfl, own_nil _ _ _ _, unhide HB, fun _ => rfl, fun h => absurd h (unhide HNE)⟩
end Go.Proofs.YtknpfippdddnhabDoor
