/- VoteOnce: the walk. -/
import Derived.Test.YtpadbbkklmgimaaOB
import Derived.Test.YtpadbbkklmgimaaW0
namespace Go.Proofs.Ytpadbbkklmgimaa
open Go.RowKit
set_option maxRecDepth 100000

/-- An act: four numbers. -/
structure ActV where
  who : Int
  to : Int
  len : Int
  last : Int
def ActV.cells (o : ActV) : List Value := [.int .i64 o.who, .int .i64 o.to, .int .i64 o.len, .int .i64 o.last]
/-- A slice of n acts. -/
def SeesActs (w : World) (v : Value) (n : Nat) (os : Nat → ActV) : Prop :=
  ∃ ao cap gb ob, v = .slice ao n cap ∧ n ≤ cap ∧ n ≤ 9223372036854775807 ∧ (0 < n → ao = some ⟨gb, ob, none⟩) ∧ ∀ t, t < n → ∀ k, k < 4 → w.cell? ⟨gb, ob + t * 4 + k, none⟩ = (os t).cells[k]?
theorem SeesActs.below {w w' : World} {v : Value} {n : Nat} {os : Nat → ActV} (h : SeesActs w v n os) (hb : Below w.heap.size w w') : SeesActs w' v n os := by
  obtain ⟨ao, cap, gb, ob, h1, h2, h3, h4, h5⟩ := h
  refine ⟨ao, cap, gb, ob, h1, h2, h3, h4, fun t ht k hk => ?_⟩
  have c := h5 t ht k hk
  have hs : ∃ u, (os t).cells[k]? = some u := ⟨_, List.getElem?_eq_getElem (by simpa [ActV.cells] using hk)⟩
  obtain ⟨u, hu⟩ := hs
  rw [hu] at c ⊢
  exact (hb.cell (p := ⟨gb, ob + t * 4 + k, none⟩) (World.block_lt_of_cell? w _ c)).trans c

/-- Where the acts stand. -/
def AtA (w : World) (n ga : Nat) (hp : Nat → Nat) (m1 m2 m : Nat) (c : Value) (wr : World) : Prop := ∃ t : Nat, t ≤ m ∧ c = .int .i64 t ∧ ∃ V G L, Once w wr n ga hp m1 m2 (2 * t) V G L ∧ Grp n V G L t

theorem mask_rem {x : Int} {m n : Nat} (hm : m < 9223372036854775808) (hn : 1 ≤ n) : ∃ i : Nat, i < n ∧ (bits BinOp.and IntKind.i64 x m).tmod n = i := by
  obtain ⟨h0, _⟩ := and_mask x m hm
  rw [Int.tmod_eq_emod_of_nonneg h0]
  refine ⟨((bits BinOp.and IntKind.i64 x m) % n).toNat, ?_, ?_⟩
  · have := Int.emod_lt_of_pos (bits BinOp.and IntKind.i64 x m) (show (0 : Int) < n by omega)
    have := Int.emod_nonneg (bits BinOp.and IntKind.i64 x m) (show (n : Int) ≠ 0 by omega)
    omega
  · have := Int.emod_nonneg (bits BinOp.and IntKind.i64 x m) (show (n : Int) ≠ 0 by omega)
    omega

set_option maxHeartbeats 6400000 in
theorem voteOnce_walk (n0 : Int) (sv : Value) (m : Nat) (os : Nat → ActV) (w : World) (hs : SeesActs w sv m os) (hm : m ≤ 1048576) :
    Calls Try.prog 4 #[.int .i64 n0, sv] w fun e w' => e = .returned (.bool true) ∧ Below w.heap.size w w' := by
  obtain ⟨i27, hi27, hz0, hz1, hz2⟩ := info_parts Try.info27
  have HS : Hid (∀ w', Below w.heap.size w w' → SeesActs w' sv m os) := fun w' hb => hs.below hb
  obtain ⟨ao, cap0, _, _, rfl, hcap, hmax, _⟩ := id hs
  clear hs
  obtain ⟨i0, hi0, hq0⟩ := mask_rem (x := n0) (m := 15) (n := 5) (by omega) (by omega)
  have hq0' : (bits BinOp.and IntKind.i64 n0 15).tmod 5 = i0 := by simpa using hq0
  obtain ⟨n, hn⟩ : ∃ n, n = 1 + i0 := ⟨_, rfl⟩
  have hq1 : 1 + (i0 : Int) = n := by omega
  have hn1 : 1 ≤ n := by omega
  have hn5 : n ≤ 5 := by omega
  clear hq0 hn
  go_enter Try.func4, Try.ntmps4
  go_wp2
  try rw [hq1]
  clear hq1 hq0' hi0
  go_loopw [5, 29] (fun v c wr => AtB w n v c wr) (fun _ c _ => n - (intOf c).toNat)
  case atStart => exact ⟨0, by omega, rfl, fun _ => 0, World.ownsRow_nil _ _ _ _, fun j hj => absurd hj (Nat.not_lt_zero _), fun i j hi => absurd hi (Nat.not_lt_zero _), Below.refl _ _⟩
  case round =>
    obtain ⟨k, hk, rfl, hp, hrow, hv, hinj, hB⟩ := hrel
    obtain ⟨a5, c5, rfl⟩ := own_shape hrow
    by_cases hlt : k < n
    · have HRow := hide hrow; have HV := hide hv; have HInj := hide hinj; have HB := hide hB
      clear hrow hv hinj hB
      go_wp2_with fail
      refine (new_blk wr n k hn1 hn5 hlt).mono ?_
      rintro e w1 ⟨rfl, hn, hb1⟩
      have HN := hide hn; have HB1 := hide hb1
      have hs1 := hb1.size
      have hsB := (unhide HB).size
      have HRow1 := hide (own_below (own_below (unhide HRow) hb1) ((Below.refl _ _).alloc (Nat.le_refl _) (.cells #[P0 (wr.heap.size + 1)] 27)))
      clear hn hb1
      go_wp2_with (at_builtin; refine wpList_append_own _ rfl _ _ 44 rfl w.heap.size 27 i27 (.pointer none) 1 8 Try.underlying44 hi27 hz0 hz1 hz2 rfl (by decide) _ _ _ rfl (unhide HRow1) ⟨w1.heap.size, 0, none⟩ 1 1 [P0 (wr.heap.size + 1)] rfl rfl ?d0 ?d1 ?d2 ?d3 ?d4 ?_)
      case d0 =>
        intro j u hu
        cases j with
        | zero =>
          simp at hu
          subst hu
          have hadd : (⟨w1.heap.size, 0, none⟩ : Addr).add 0 = ⟨w1.heap.size, 0, none⟩ := rfl
          rw [hadd]
          exact World.cell?_alloc_mark w1 _ 27 (0, 0) 0
        | succ j => simp at hu
      case d1 => intro u hu; simp at hu; subst hu; rfl
      case d2 => unfold maxLen; omega
      case d3 => omega
      case d4 => simp; omega
      intro v' w2 hown hg _
      have HA : Hid (AtB w n v' (.int .i64 ((k + 1 : Nat) : Int)) w2) := AtB.next hlt (unhide HRow) (unhide HV) (unhide HInj) (unhide HB) (unhide HB1) (unhide HN) hown hg
      obtain ⟨a6, c6, rfl⟩ := own_shape hown
      clear hown hg hs1 hsB
      go_wp2
      go_roundw
      case rel => exact unhide HA
      case measure => simp [intOf]; omega
    · obtain rfl : k = n := by omega
      have hw : w.heap.size ≤ wr.heap.size := hB.size
      have hmk1 := fun W => run_makeMap (P := Try.prog) 45 W
      have hmk2 := fun W => run_makeMap (P := Try.prog) 46 W
      rcases id hrow.2 with ⟨e, h0⟩ | ⟨ga, cpa, cur, e, hga, hgg, hnc, hcm, hcs, htake⟩
      · omega
      cases e
      have hsv : ∀ j, j < k → wr.cell? ⟨ga, j, none⟩ = some (P0 (hp j)) := fun j hj => by
        have := hrow.cells (g := ga) rfl j (P0 (hp j)) (by simp [ptrs, hj])
        have hadd : (⟨ga, 0, none⟩ : Addr).add j = ⟨ga, j, none⟩ := by unfold Addr.add; split <;> simp_all
        first | exact this | (rw [hadd] at this; exact this)
      have hgal : ga < wr.heap.size := (Array.getElem?_eq_some_iff.1 hgg).1
      have hhl : ∀ j, j < k → hp j < wr.heap.size := fun j hj => (Array.getElem?_eq_some_iff.1 (hv j hj).1).1
      have hal : Below wr.heap.size wr ((wr.alloc (.map #[] 0)).alloc (.map #[] 0)) := ((Below.refl _ _).alloc (Nat.le_refl _) _).alloc (by simp) _
      have hO : Once w ((wr.alloc (.map #[] 0)).alloc (.map #[] 0)) k ga hp wr.heap.size (wr.heap.size + 1) 0 (fun j => Vt.new k j 0 (-1)) (fun _ _ => none) (fun _ => none) := by
        refine ⟨hn1, hn5, fun j hj => (hal.cell (p := ⟨ga, j, none⟩) hgal).trans (hsv j hj), fun j hj => (isV_block (hv j hj).1).below hal, hinj, ⟨.map [], ?_, MapL.empty⟩, ⟨.map [], ?_, MapG.empty⟩, by omega, by omega, by omega, fun j hj e => ?_, fun j hj => by have := hhl j hj; omega, fun j hj => by have := hhl j hj; omega, hga, hw, by omega, fun j hj => (hv j hj).2, hB.trans (hal.mono hw)⟩
        · exact ownsMap_of_block (World.ownsMap_made wr Try.prog 2 R3) (Below.heap_alloc _ _ _ (by simp))
        · have := World.ownsMap_made (wr.alloc (.map #[] 0)) Try.prog 51 R3
          rw [World.size_alloc] at this
          exact this
        · have h1 := (hv j hj).1
          unfold VB at h1
          rw [e, hgg] at h1
          simp at h1
      have HO := hide hO
      have HG0 : Hid (Grp k (fun j => Vt.new k j 0 (-1)) (fun _ _ => none) (fun _ => none) 0) := Grp.start hn1 hn5 (fun j _ => rfl)
      obtain ⟨m1, hm1⟩ : ∃ m1, wr.heap.size = m1 := ⟨_, rfl⟩
      clear hsv hgal hhl hal hO hrow hv hinj hgg hga hcm hcs htake hw hB
      go_wp2
      rw [hm1] at HO
      obtain ⟨m2, hm2⟩ : ∃ m2, m1 + 1 = m2 := ⟨_, rfl⟩
      rw [hm2] at HO ⊢
      generalize (wr.alloc (.map #[] 0)).alloc (.map #[] 0) = W0 at HO ⊢
      clear hmk1 hmk2 hm1 hm2 hi27
      go_loopw [50] (fun c wr => AtA w k ga hp m1 m2 m c wr) (fun c _ => m - (intOf c).toNat)
      case atStart => exact ⟨0, by omega, rfl, _, _, _, unhide HO, unhide HG0⟩
      case round =>
        obtain ⟨t, ht, rfl, V, G, L, hO, hG⟩ := hrel
        clear HO HG0
        by_cases hlt2 : t < m
        · obtain ⟨ao', cap', gb, ob, hv, _, _, hao, hcl⟩ := unhide HS wr hO.bel
          simp only [Value.slice.injEq, true_and] at hv
          obtain ⟨rfl, rfl⟩ := hv
          obtain rfl := hao (by omega)
          obtain ⟨q, hq⟩ : ∃ q, os t = q := ⟨_, rfl⟩
          have hc := hcl t hlt2
          rw [hq] at hc
          have c0 := hc 0 (by decide); have c1 := hc 1 (by decide); have c2 := hc 2 (by decide); have c3 := hc 3 (by decide)
          obtain ⟨a0, a1, a2, a3⟩ := q
          simp only [ActV.cells, Nat.add_zero, List.getElem?_cons_zero, List.getElem?_cons_succ] at c0 c1 c2 c3
          clear hcl hao hq hc
          obtain ⟨i, hi, hqi⟩ := mask_rem (x := a0) (m := 15) (n := k) (by omega) hn1
          obtain ⟨e, he, hqe⟩ := mask_rem (x := a1) (m := 15) (n := k) (by omega) hn1
          have hqi' : (bits BinOp.and IntKind.i64 a0 15).tmod k = i := by simpa using hqi
          have hqe' : (bits BinOp.and IntKind.i64 a1 15).tmod k = e := by simpa using hqe
          clear hqi hqe
          have hnz : ¬ k = 0 := by omega
          obtain ⟨B, hB⟩ : ∃ B, wr.alloc (.cells #[.int .i64 a0, .int .i64 a1, .int .i64 a2, .int .i64 a3] 48) = B := ⟨_, rfl⟩
          have hb1 : Below wr.heap.size wr B := hB ▸ (Below.refl _ _).alloc (Nat.le_refl _) _
          have HOB := hide (hO.below hb1)
          have HGr := hide hG
          have hlm : m1 < wr.heap.size ∧ m2 < wr.heap.size ∧ ga < wr.heap.size ∧ ∀ j, j < k → hp j < wr.heap.size := by
            obtain ⟨D1, o1, _⟩ := hO.om1
            obtain ⟨D2, o2, _⟩ := hO.om2
            exact ⟨o1.lt, o2.lt, World.block_lt_of_cell? wr _ (hO.sv 0 (by omega)), fun j hj => (hO.iv j hj).lt⟩
          have hBs : B.heap.size = wr.heap.size + 1 := by rw [← hB]; simp
          have HBX : Hid (∀ x : World, x.heap[wr.heap.size]? = B.heap[wr.heap.size]? → x.cell? ⟨wr.heap.size, 0, none⟩ = some (.int .i64 a0) ∧ x.cell? ⟨wr.heap.size, 1, none⟩ = some (.int .i64 a1) ∧ x.cell? ⟨wr.heap.size, 2, none⟩ = some (.int .i64 a2) ∧ x.cell? ⟨wr.heap.size, 3, none⟩ = some (.int .i64 a3)) := fun x hx => by
            have hx2 : x.heap[wr.heap.size]? = some (.cells #[.int .i64 a0, .int .i64 a1, .int .i64 a2, .int .i64 a3] 48 (0, 0)) := hx.trans (by rw [← hB]; exact heap_alloc_new _ _)
            have c := fun o => cell_of_row x wr.heap.size o _ _ _ hx2
            exact ⟨c 0, c 1, c 2, c 3⟩
          have HLM := hide hlm
          have HVL : Hid (R3 (.int .i64 i) = some (.lit (.int .i64 i), [])) := plainElem_int Try.underlying3 (WalkArith.wf_i64 ⟨by omega, by omega⟩)
          have HBs := hide hBs
          obtain ⟨q0, q1, q2, q3⟩ := unhide HBX B rfl
          have si := (unhide HOB).sv i hi
          have se := (unhide HOB).sv e he
          have hi0 : (0 : Int) ≤ (i : Int) := by omega
          have hik : (i : Int) < k := by omega
          have he0 : (0 : Int) ≤ (e : Int) := by omega
          have hek : (e : Int) < k := by omega
          have hck : k ≤ c5 := by assumption
          clear hO hG hb1 hlm hBs
          go_wp2_with (rw [hB])
          refine wp_region_held_drew (S := fun x => x.cell? ⟨wr.heap.size, 0, none⟩ = some (.int .i64 a0) ∧ x.cell? ⟨wr.heap.size, 1, none⟩ = some (.int .i64 a1)) (by kernel_rfl) ⟨q0, q1⟩ (fun hHeld => ?_)
          refine wpAnyH_take (i := 0) (v := ?v1x0) rfl (by kernel_rfl) (by kernel_rfl) (by kernel_rfl) (fun _ _ _ h => h) (Or.inl ⟨by rfl, ?hy1x0⟩) (by assumption) ?rest1x0
          case hy1x0 => intro w hSw; obtain ⟨s0, s1⟩ := hSw; go_simp <;> with_reducible rfl
          simp only [Act.put, List.getElem_toArray, List.getElem_cons_zero, List.setIfInBounds_toArray, List.set_cons_zero, List.set_cons_succ]
          refine wpAnyH_take (i := 1) (v := ?v2x1) rfl (by kernel_rfl) (by kernel_rfl) (by kernel_rfl) (fun _ _ _ h => h) (Or.inl ⟨by rfl, ?hy2x1⟩) (by assumption) ?rest2x1
          case hy2x1 => intro w hSw; obtain ⟨s0, s1⟩ := hSw; go_simp <;> with_reducible rfl
          simp only [Act.put, List.getElem_toArray, List.getElem_cons_zero, List.getElem_cons_succ, List.setIfInBounds_toArray, List.set_cons_zero, List.set_cons_succ]
          refine wpAnyH_take (i := 2) (v := ?v3x2) rfl (by kernel_rfl) (by kernel_rfl) (by kernel_rfl) (fun _ _ _ h => h) (Or.inl ⟨by rfl, ?hy3x2⟩) (by assumption) ?rest3x2
          case hy3x2 => intro w hSw; obtain ⟨s0, s1⟩ := hSw; go_simp <;> with_reducible rfl
          simp only [Act.put, List.getElem_toArray, List.getElem_cons_zero, List.getElem_cons_succ, List.setIfInBounds_toArray, List.set_cons_zero, List.set_cons_succ]
          refine wpAnyH_take (i := 3) (v := ?v4x3) rfl (by kernel_rfl) (by kernel_rfl) (by kernel_rfl) (fun _ _ _ h => h) (Or.inl ⟨by rfl, ?hy4x3⟩) (by assumption) ?rest4x3
          case hy4x3 => intro w hSw; obtain ⟨s0, s1⟩ := hSw; go_simp <;> with_reducible rfl
          simp only [Act.put, List.getElem_toArray, List.getElem_cons_zero, List.getElem_cons_succ, List.setIfInBounds_toArray, List.set_cons_zero, List.set_cons_succ]
          refine wpAnyH_take (i := 4) (v := (.int .i64 i)) rfl (by kernel_rfl) (by kernel_rfl) (by kernel_rfl) (fun _ _ _ h => h) (Or.inl ⟨by rfl, ?hy5x4⟩) (by assumption) ?rest5x4
          case hy5x4 => intro w hSw; obtain ⟨s0, s1⟩ := hSw; go_simp <;> with_reducible rfl
          simp only [Act.put, List.getElem_toArray, List.getElem_cons_zero, List.getElem_cons_succ, List.setIfInBounds_toArray, List.set_cons_zero, List.set_cons_succ]
          refine wpAnyH_take (i := 5) (v := ?v6x5) rfl (by kernel_rfl) (by kernel_rfl) (by kernel_rfl) (fun _ _ _ h => h) (Or.inl ⟨by rfl, ?hy6x5⟩) (by assumption) ?rest6x5
          case hy6x5 => intro w hSw; obtain ⟨s0, s1⟩ := hSw; go_simp <;> with_reducible rfl
          simp only [Act.put, List.getElem_toArray, List.getElem_cons_zero, List.getElem_cons_succ, List.setIfInBounds_toArray, List.set_cons_zero, List.set_cons_succ]
          refine wpAnyH_take (i := 6) (v := ?v7x6) rfl (by kernel_rfl) (by kernel_rfl) (by kernel_rfl) (fun _ _ _ h => h) (Or.inl ⟨by rfl, ?hy7x6⟩) (by assumption) ?rest7x6
          case hy7x6 => intro w hSw; obtain ⟨s0, s1⟩ := hSw; go_simp <;> with_reducible rfl
          simp only [Act.put, List.getElem_toArray, List.getElem_cons_zero, List.getElem_cons_succ, List.setIfInBounds_toArray, List.set_cons_zero, List.set_cons_succ]
          refine wpAnyH_take (i := 7) (v := ?v8x7) rfl (by kernel_rfl) (by kernel_rfl) (by kernel_rfl) (fun _ _ _ h => h) (Or.inl ⟨by rfl, ?hy8x7⟩) (by assumption) ?rest8x7
          case hy8x7 => intro w hSw; obtain ⟨s0, s1⟩ := hSw; go_simp <;> with_reducible rfl
          simp only [Act.put, List.getElem_toArray, List.getElem_cons_zero, List.getElem_cons_succ, List.setIfInBounds_toArray, List.set_cons_zero, List.set_cons_succ]
          refine wpAnyH_take (i := 8) (v := ?v9x8) rfl (by kernel_rfl) (by kernel_rfl) (by kernel_rfl) (fun _ _ _ h => h) (Or.inl ⟨by rfl, ?hy9x8⟩) (by assumption) ?rest9x8
          case hy9x8 => intro w hSw; obtain ⟨s0, s1⟩ := hSw; go_simp <;> with_reducible rfl
          simp only [Act.put, List.getElem_toArray, List.getElem_cons_zero, List.getElem_cons_succ, List.setIfInBounds_toArray, List.set_cons_zero, List.set_cons_succ]
          refine wpAnyH_take (i := 9) (v := (.int .i64 e)) rfl (by kernel_rfl) (by kernel_rfl) (by kernel_rfl) (fun _ _ _ h => h) (Or.inl ⟨by rfl, ?hy10x9⟩) (by assumption) ?rest10x9
          case hy10x9 => intro w hSw; obtain ⟨s0, s1⟩ := hSw; go_simp <;> with_reducible rfl
          simp only [Act.put, List.getElem_toArray, List.getElem_cons_zero, List.getElem_cons_succ, List.setIfInBounds_toArray, List.set_cons_zero, List.set_cons_succ]
          refine wpAnyH_take (i := 10) (v := ?v11x10) rfl (by kernel_rfl) (by kernel_rfl) (by kernel_rfl) (fun _ _ _ h => h) (Or.inl ⟨by rfl, ?hy11x10⟩) (by assumption) ?rest11x10
          case hy11x10 => intro w hSw; obtain ⟨s0, s1⟩ := hSw; go_simp <;> with_reducible rfl
          simp only [Act.put, List.getElem_toArray, List.getElem_cons_zero, List.getElem_cons_succ, List.setIfInBounds_toArray, List.set_cons_zero, List.set_cons_succ]
          refine wpAnyH_take (i := 11) (v := ?v12x11) rfl (by kernel_rfl) (by kernel_rfl) (by kernel_rfl) (fun _ _ _ h => h) (Or.inl ⟨by rfl, ?hy12x11⟩) (by assumption) ?rest12x11
          case hy12x11 => intro w hSw; obtain ⟨s0, s1⟩ := hSw; go_simp <;> with_reducible rfl
          simp only [Act.put, List.getElem_toArray, List.getElem_cons_zero, List.getElem_cons_succ, List.setIfInBounds_toArray, List.set_cons_zero, List.set_cons_succ]
          refine wpAnyH_done (by kernel_rfl) ?_ _
          go_wp2
          refine wp_region_held_drew (S := fun x => x.cell? ⟨ga, i, none⟩ = some (P0 (hp i)) ∧ x.cell? ⟨ga, e, none⟩ = some (P0 (hp e))) (by kernel_rfl) ⟨si, se⟩ (fun hHeld => ?_)
          refine wpAnyH_take (i := 0) (v := ?v13x0) rfl (by kernel_rfl) (by kernel_rfl) (by kernel_rfl) (fun _ _ _ h => h) (Or.inl ⟨by rfl, ?hy13x0⟩) (by assumption) ?rest13x0
          case hy13x0 => intro w hSw; obtain ⟨s0, s1⟩ := hSw; go_simp <;> with_reducible rfl
          simp only [Act.put, List.getElem_toArray, List.getElem_cons_zero, List.setIfInBounds_toArray, List.set_cons_zero, List.set_cons_succ]
          refine wpAnyH_take (i := 1) (v := ?v14x1) rfl (by kernel_rfl) (by kernel_rfl) (by kernel_rfl) (fun _ _ _ h => h) (Or.inl ⟨by rfl, ?hy14x1⟩) (by assumption) ?rest14x1
          case hy14x1 => intro w hSw; obtain ⟨s0, s1⟩ := hSw; go_simp <;> with_reducible rfl
          simp only [Act.put, List.getElem_toArray, List.getElem_cons_zero, List.getElem_cons_succ, List.setIfInBounds_toArray, List.set_cons_zero, List.set_cons_succ]
          refine wpAnyH_take (i := 2) (v := ?v15x2) rfl (by kernel_rfl) (by kernel_rfl) (by kernel_rfl) (fun _ _ _ h => h) (Or.inl ⟨by rfl, ?hy15x2⟩) (by assumption) ?rest15x2
          case hy15x2 => intro w hSw; obtain ⟨s0, s1⟩ := hSw; go_simp <;> with_reducible rfl
          simp only [Act.put, List.getElem_toArray, List.getElem_cons_zero, List.getElem_cons_succ, List.setIfInBounds_toArray, List.set_cons_zero, List.set_cons_succ]
          refine wpAnyH_take (i := 3) (v := ?v16x3) rfl (by kernel_rfl) (by kernel_rfl) (by kernel_rfl) (fun _ _ _ h => h) (Or.inl ⟨by rfl, ?hy16x3⟩) (by assumption) ?rest16x3
          case hy16x3 => intro w hSw; obtain ⟨s0, s1⟩ := hSw; go_simp <;> with_reducible rfl
          simp only [Act.put, List.getElem_toArray, List.getElem_cons_zero, List.getElem_cons_succ, List.setIfInBounds_toArray, List.set_cons_zero, List.set_cons_succ]
          refine wpAnyH_take (i := 4) (v := ?v17x4) rfl (by kernel_rfl) (by kernel_rfl) (by kernel_rfl) (fun _ _ _ h => h) (Or.inl ⟨by rfl, ?hy17x4⟩) (by assumption) ?rest17x4
          case hy17x4 => intro w hSw; obtain ⟨s0, s1⟩ := hSw; go_simp <;> with_reducible rfl
          simp only [Act.put, List.getElem_toArray, List.getElem_cons_zero, List.getElem_cons_succ, List.setIfInBounds_toArray, List.set_cons_zero, List.set_cons_succ]
          refine wpAnyH_take (i := 5) (v := ?v18x5) rfl (by kernel_rfl) (by kernel_rfl) (by kernel_rfl) (fun _ _ _ h => h) (Or.inl ⟨by rfl, ?hy18x5⟩) (by assumption) ?rest18x5
          case hy18x5 => intro w hSw; obtain ⟨s0, s1⟩ := hSw; go_simp <;> with_reducible rfl
          simp only [Act.put, List.getElem_toArray, List.getElem_cons_zero, List.getElem_cons_succ, List.setIfInBounds_toArray, List.set_cons_zero, List.set_cons_succ]
          refine wpAnyH_take (i := 6) (v := ?v19x6) rfl (by kernel_rfl) (by kernel_rfl) (by kernel_rfl) (fun _ _ _ h => h) (Or.inl ⟨by rfl, ?hy19x6⟩) (by assumption) ?rest19x6
          case hy19x6 => intro w hSw; obtain ⟨s0, s1⟩ := hSw; go_simp <;> with_reducible rfl
          simp only [Act.put, List.getElem_toArray, List.getElem_cons_zero, List.getElem_cons_succ, List.setIfInBounds_toArray, List.set_cons_zero, List.set_cons_succ]
          refine wpAnyH_take (i := 7) (v := ?v20x7) rfl (by kernel_rfl) (by kernel_rfl) (by kernel_rfl) (fun _ _ _ h => h) (Or.inl ⟨by rfl, ?hy20x7⟩) (by assumption) ?rest20x7
          case hy20x7 => intro w hSw; obtain ⟨s0, s1⟩ := hSw; go_simp <;> with_reducible rfl
          simp only [Act.put, List.getElem_toArray, List.getElem_cons_zero, List.getElem_cons_succ, List.setIfInBounds_toArray, List.set_cons_zero, List.set_cons_succ]
          refine wpAnyH_take (i := 8) (v := ?v21x8) rfl (by kernel_rfl) (by kernel_rfl) (by kernel_rfl) (fun _ _ _ h => h) (Or.inl ⟨by rfl, ?hy21x8⟩) (by assumption) ?rest21x8
          case hy21x8 => intro w hSw; obtain ⟨s0, s1⟩ := hSw; go_simp <;> with_reducible rfl
          simp only [Act.put, List.getElem_toArray, List.getElem_cons_zero, List.getElem_cons_succ, List.setIfInBounds_toArray, List.set_cons_zero, List.set_cons_succ]
          refine wpAnyH_take (i := 9) (v := ?v22x9) rfl (by kernel_rfl) (by kernel_rfl) (by kernel_rfl) (fun _ _ _ h => h) (Or.inl ⟨by rfl, ?hy22x9⟩) (by assumption) ?rest22x9
          case hy22x9 => intro w hSw; obtain ⟨s0, s1⟩ := hSw; go_simp <;> with_reducible rfl
          simp only [Act.put, List.getElem_toArray, List.getElem_cons_zero, List.getElem_cons_succ, List.setIfInBounds_toArray, List.set_cons_zero, List.set_cons_succ]
          refine wpAnyH_done (by kernel_rfl) ?_ _
          have HO2 := hide ((unhide HOB).below (w' := B.drew.drew) (Below.refl _ _).drew.drew)
          have HX2 : Hid (B.drew.drew.heap[wr.heap.size]? = B.heap[wr.heap.size]?) := rfl
          have HBs2 : Hid (B.drew.drew.heap.size = wr.heap.size + 1) := unhide HBs
          clear HOB HBs q0 q1 q2 q3 si se hB hqi' hqe' c0 c1 c2 c3
          generalize B.drew.drew = W1 at HO2 HX2 HBs2 ⊢
          have HTk := hide (term_yes ((unhide HO2).iv e he) ((unhide HGr).ok e he))
          go_wp2_with fail
          refine (unhide HTk).mono ?_
          rintro e' wq ⟨rfl, rfl⟩
          clear HTk
          by_cases cie : i = e
          · subst cie
            have ht40 : (V i).term < 1099511627776 := by have := (unhide HGr).tm i hi; omega
            have ht0 := ((unhide HGr).ok i hi).t0
            have hI1 : I64 ((V i).term + 1) := ⟨by omega, by omega⟩
            have hwr : IntKind.i64.wrap ((V i).term + 1) = (V i).term + 1 := wrap_id (by omega) (by omega)
            have HST := hide (stand_ok ((unhide HO2).iv i hi) ((unhide HGr).ok i hi) ht40)
            have HG3 := hide ((unhide HGr).stand hi ht40)
            have HOkS := hide (((unhide HGr).ok i hi).stand ht40)
            go_wp2_with fail
            refine (unhide HST).mono ?_
            rintro e' y1 ⟨rfl, I1, u1⟩
            have HO3 := hide ((unhide HO2).vote hi I1 u1)
            have HT3 : Hid (Calls Try.prog 13 #[P0 (hp i)] y1 fun e w' => e = .returned (.int .i64 ((V i).term + 1)) ∧ y1 = w') := term_yes I1 (unhide HOkS)
            clear I1 u1 HST HX2 HBs2
            go_wp2_with fail
            refine (unhide HT3).mono ?_
            rintro e' wq ⟨rfl, rfl⟩
            obtain ⟨D2, oD2, rD2⟩ := (unhide HO3).om2
            have HD2 := hide oD2
            have HK2 := hide (key_mk (show I64 (i : Int) from ⟨by omega, by omega⟩) hI1)
            clear oD2
            go_wp2_with fail
            refine (unhide HT3).mono ?_
            rintro e' wq ⟨rfl, rfl⟩
            go_wp2_with (first | (at_mapUpdate; refine wpList_mapUpdate_in _ rfl _ _ _ 46 rfl 51 3 key51 Try.underlying46 R3 m2 _ D2 rfl (unhide HD2) (by unfold maxLen; omega) _ _ _ rfl rfl (unhide HK2) (.lit (.int .i64 i)) [] (unhide HVL) ?_; intro y6 o6 tn6) | fail)
            have HOx := hide ((unhide HO3).gives o6 (rD2.put (unhide HD2).isMap (show i < 5 by omega) hI1 i) (upd_of_grown tn6.grown) (Nat.le_succ _))
            clear o6 tn6 HT3 HO3 HO2
            have hge : (V i).term ≤ (setV V i (V i).stand i).term := by rw [setV_same]; show (V i).term ≤ (V i).term + 1; omega
            have HGx := HG3
            clear HG3
            generalize setV V i (V i).stand = V' at HOx HGx hge ⊢
            generalize putG G i ((V i).term + 1) i = G' at HOx HGx
            generalize (V i).term = was at hge hwr ht40 ht0 hI1 ⊢
            have HT1 := hide (term_yes ((unhide HOx).iv i hi) ((unhide HGx).ok i hi))
            go_wp2_with fail
            refine (unhide HT1).mono ?_
            rintro e' wq ⟨rfl, rfl⟩
            have HW1 := hide (won_any ((unhide HOx).iv i hi) ((unhide HGx).ok i hi))
            clear HT1
            go_wp2_with fail
            refine (unhide HW1).mono ?_
            rintro e' y8 ⟨rfl, hb8⟩
            have HO8 := hide ((unhide HOx).below hb8)
            clear hb8 HW1 HOx
            cases hwn : (V' i).won
            · go_wp2
              go_roundw
              case rel => exact ⟨t + 1, by omega, by go_num, _, _, _, (unhide HO8).more (by omega), (unhide HGx).later (by omega)⟩
              case measure => simp [intOf]; omega
            · have HT2 := hide (term_yes ((unhide HO8).iv i hi) ((unhide HGx).ok i hi))
              obtain ⟨D1, oD1, rD1⟩ := (unhide HO8).om1
              have HD1 := hide oD1
              have hI : I64 (V' i).term := by have a1 := ((unhide HGx).ok i hi).t0; have a2 := ((unhide HGx).ok i hi).t1; exact ⟨by omega, by omega⟩
              have HKY := hide (key2_mk hI)
              have hr1 := rD1 _ hI
              clear oD1
              go_wp2_with fail
              refine (unhide HT2).mono ?_
              rintro e' wq ⟨rfl, rfl⟩
              cases hL : L (V' i).term with
              | none =>
                rw [hL] at hr1
                have hhas : Maps.has D1 (.int .i64 (V' i).term) = false := hr1.1
                go_wp2_with (first | (at_lookup; refine wpList_lookup_own_ok_int _ rfl _ _ 45 rfl 2 3 .i64 key2 Try.underlying45 Try.underlying3 (Try.zeroValue3 _) m1 _ D1 rfl (unhide HD1) _ _ rfl (unhide HKY) ?_; intro c hat hwc; rw [hhas]) | fail)
                refine (unhide HT2).mono ?_
                rintro e' wq ⟨rfl, rfl⟩
                go_wp2_with (first | (at_mapUpdate; refine wpList_mapUpdate_in _ rfl _ _ _ 45 rfl 2 3 key2 Try.underlying45 R3 m1 _ D1 rfl (unhide HD1) (by unfold maxLen; omega) _ _ _ rfl rfl (unhide HKY) (.lit (.int .i64 i)) [] (unhide HVL) ?_; intro y9 o9 tn9) | fail)
                have HF := hide ((unhide HO8).leads o9 (rD1.put (unhide HD1).isMap hI i) (upd_of_grown tn9.grown) (Nat.le_succ _))
                clear o9 tn9
                go_wp2
                go_roundw
                case rel => exact ⟨t + 1, by omega, by go_num, _, _, _, (unhide HF).more (by omega), ((unhide HGx).win hi hwn).later (by omega)⟩
                case measure => simp [intOf]; omega
              | some who =>
                have hwho := (unhide HGx).alone hi hwn who hL
                subst hwho
                rw [hL] at hr1
                have hhas : Maps.has D1 (.int .i64 (V' who).term) = true := hr1.1
                have HAT := hide (hr1.2 who rfl (.lit (.int .i64 0)))
                go_wp2_with (first | (at_lookup; refine wpList_lookup_own_ok_int _ rfl _ _ 45 rfl 2 3 .i64 key2 Try.underlying45 Try.underlying3 (Try.zeroValue3 _) m1 _ D1 rfl (unhide HD1) _ _ rfl (unhide HKY) ?_; intro c hat hwc; rw [hhas]; have hcw : c = who := (by have h2 := hat.symm.trans (unhide HAT); simpa using h2); subst hcw) | fail)
                refine (unhide HT2).mono ?_
                rintro e' wq ⟨rfl, rfl⟩
                go_wp2_with (first | (at_mapUpdate; refine wpList_mapUpdate_in _ rfl _ _ _ 45 rfl 2 3 key2 Try.underlying45 R3 m1 _ D1 rfl (unhide HD1) (by unfold maxLen; omega) _ _ _ rfl rfl (unhide HKY) (.lit (.int .i64 who)) [] (unhide HVL) ?_; intro y9 o9 tn9) | fail)
                have HF := hide ((unhide HO8).leads o9 (rD1.put (unhide HD1).isMap hI who) (upd_of_grown tn9.grown) (Nat.le_succ _))
                clear o9 tn9
                go_wp2
                go_roundw
                case rel => exact ⟨t + 1, by omega, by go_num, _, _, _, (unhide HF).more (by omega), ((unhide HGx).win hi hwn).later (by omega)⟩
                case measure => simp [intOf]; omega
          · have HSd := hide (standing_yes ((unhide HO2).iv i hi) ((unhide HGr).ok i hi))
            have hme := (unhide HGr).me i hi
            have hcie : ((i : Int) == (e : Int)) = false := by simp; omega
            rw [hme] at HSd
            go_wp2_with fail
            refine (unhide HSd).mono ?_
            rintro e' y1 ⟨rfl, hb1⟩
            clear HSd
            cases hsv : (V i).vt i
            · skip
              have HOx := hide ((unhide HO2).below hb1)
              have HGx := HGr
              clear hb1 HO2 HX2 HBs2
              obtain ⟨V', hV'⟩ : ∃ V', V = V' := ⟨_, rfl⟩
              have hge : (V e).term ≤ (V' e).term := by rw [← hV']; exact Int.le_refl _
              rw [hV'] at HOx HGx
              generalize (V e).term = was at hge ⊢
              clear hV' HGr
              have HT1 := hide (term_yes ((unhide HOx).iv e he) ((unhide HGx).ok e he))
              go_wp2_with fail
              refine (unhide HT1).mono ?_
              rintro e' wq ⟨rfl, rfl⟩
              have HW1 := hide (won_any ((unhide HOx).iv i hi) ((unhide HGx).ok i hi))
              clear HT1
              go_wp2_with fail
              refine (unhide HW1).mono ?_
              rintro e' y8 ⟨rfl, hb8⟩
              have HO8 := hide ((unhide HOx).below hb8)
              clear hb8 HW1 HOx
              cases hwn : (V' i).won
              · go_wp2
                go_roundw
                case rel => exact ⟨t + 1, by omega, by go_num, _, _, _, (unhide HO8).more (by omega), (unhide HGx).later (by omega)⟩
                case measure => simp [intOf]; omega
              · have HT2 := hide (term_yes ((unhide HO8).iv i hi) ((unhide HGx).ok i hi))
                obtain ⟨D1, oD1, rD1⟩ := (unhide HO8).om1
                have HD1 := hide oD1
                have hI : I64 (V' i).term := by have a1 := ((unhide HGx).ok i hi).t0; have a2 := ((unhide HGx).ok i hi).t1; exact ⟨by omega, by omega⟩
                have HKY := hide (key2_mk hI)
                have hr1 := rD1 _ hI
                clear oD1
                go_wp2_with fail
                refine (unhide HT2).mono ?_
                rintro e' wq ⟨rfl, rfl⟩
                cases hL : L (V' i).term with
                | none =>
                  rw [hL] at hr1
                  have hhas : Maps.has D1 (.int .i64 (V' i).term) = false := hr1.1
                  go_wp2_with (first | (at_lookup; refine wpList_lookup_own_ok_int _ rfl _ _ 45 rfl 2 3 .i64 key2 Try.underlying45 Try.underlying3 (Try.zeroValue3 _) m1 _ D1 rfl (unhide HD1) _ _ rfl (unhide HKY) ?_; intro c hat hwc; rw [hhas]) | fail)
                  refine (unhide HT2).mono ?_
                  rintro e' wq ⟨rfl, rfl⟩
                  go_wp2_with (first | (at_mapUpdate; refine wpList_mapUpdate_in _ rfl _ _ _ 45 rfl 2 3 key2 Try.underlying45 R3 m1 _ D1 rfl (unhide HD1) (by unfold maxLen; omega) _ _ _ rfl rfl (unhide HKY) (.lit (.int .i64 i)) [] (unhide HVL) ?_; intro y9 o9 tn9) | fail)
                  have HF := hide ((unhide HO8).leads o9 (rD1.put (unhide HD1).isMap hI i) (upd_of_grown tn9.grown) (Nat.le_succ _))
                  clear o9 tn9
                  go_wp2
                  go_roundw
                  case rel => exact ⟨t + 1, by omega, by go_num, _, _, _, (unhide HF).more (by omega), ((unhide HGx).win hi hwn).later (by omega)⟩
                  case measure => simp [intOf]; omega
                | some who =>
                  have hwho := (unhide HGx).alone hi hwn who hL
                  subst hwho
                  rw [hL] at hr1
                  have hhas : Maps.has D1 (.int .i64 (V' who).term) = true := hr1.1
                  have HAT := hide (hr1.2 who rfl (.lit (.int .i64 0)))
                  go_wp2_with (first | (at_lookup; refine wpList_lookup_own_ok_int _ rfl _ _ 45 rfl 2 3 .i64 key2 Try.underlying45 Try.underlying3 (Try.zeroValue3 _) m1 _ D1 rfl (unhide HD1) _ _ rfl (unhide HKY) ?_; intro c hat hwc; rw [hhas]; have hcw : c = who := (by have h2 := hat.symm.trans (unhide HAT); simpa using h2); subst hcw) | fail)
                  refine (unhide HT2).mono ?_
                  rintro e' wq ⟨rfl, rfl⟩
                  go_wp2_with (first | (at_mapUpdate; refine wpList_mapUpdate_in _ rfl _ _ _ 45 rfl 2 3 key2 Try.underlying45 R3 m1 _ D1 rfl (unhide HD1) (by unfold maxLen; omega) _ _ _ rfl rfl (unhide HKY) (.lit (.int .i64 who)) [] (unhide HVL) ?_; intro y9 o9 tn9) | fail)
                  have HF := hide ((unhide HO8).leads o9 (rD1.put (unhide HD1).isMap hI who) (upd_of_grown tn9.grown) (Nat.le_succ _))
                  clear o9 tn9
                  go_wp2
                  go_roundw
                  case rel => exact ⟨t + 1, by omega, by go_num, _, _, _, (unhide HF).more (by omega), ((unhide HGx).win hi hwn).later (by omega)⟩
                  case measure => simp [intOf]; omega
            · skip
              have HO3 := hide ((unhide HO2).below hb1)
              have HX3 : Hid (y1.heap[wr.heap.size]? = B.heap[wr.heap.size]?) := (hb1.block wr.heap.size (by rw [unhide HBs2]; omega)).trans (unhide HX2)
              have hs1 := hb1.size
              have HY1 : Hid (wr.heap.size < y1.heap.size) := Nat.lt_of_lt_of_le (by rw [unhide HBs2]; omega) hs1
              have HOki := hide ((unhide HGr).ok i hi)
              have HTi := hide (term_yes ((unhide HO3).iv i hi) (unhide HOki))
              have hI1 : I64 (V i).term := by have a1 := (unhide HOki).t0; have a2 := (unhide HOki).t1; exact ⟨by omega, by omega⟩
              clear hb1 HO2 HX2 HBs2 hs1
              go_wp2_with fail
              refine (unhide HTi).mono ?_
              rintro e' wq ⟨rfl, rfl⟩
              obtain ⟨l7, hl7⟩ : ∃ x, bits BinOp.and IntKind.i64 a2 7 = x := ⟨_, rfl⟩
              obtain ⟨z7, hz7⟩ : ∃ x, bits BinOp.and IntKind.i64 a3 7 = x := ⟨_, rfl⟩
              obtain ⟨C, hC⟩ : ∃ C, y1.alloc (.cells #[.int .i64 i, .int .i64 (V i).term, .int .i64 5, .int .i64 5] 36) = C := ⟨_, rfl⟩
              have hbC : Below y1.heap.size y1 C := hC ▸ (Below.refl _ _).alloc (Nat.le_refl _) _
              have HOC := hide ((unhide HO3).below hbC)
              have HXC : Hid (C.heap[wr.heap.size]? = B.heap[wr.heap.size]?) := (hbC.block _ (unhide HY1)).trans (unhide HX3)
              have hCb : C.heap[y1.heap.size]? = some (.cells #[.int .i64 i, .int .i64 (V i).term, .int .i64 5, .int .i64 5] 36 (0, 0)) := by rw [← hC]; exact heap_alloc_new _ _
              have hCs : C.heap.size = y1.heap.size + 1 := by rw [← hC]; simp
              obtain ⟨_, _, d2, d3⟩ := unhide HBX C (unhide HXC)
              have cb := fun o => cell_of_row C y1.heap.size o _ _ _ hCb
              have f0 : C.cell? ⟨y1.heap.size, 0, none⟩ = some (.int .i64 i) := cb 0
              have f1 : C.cell? ⟨y1.heap.size, 1, none⟩ = some (.int .i64 (V i).term) := cb 1
              have f2 : C.cell? ⟨y1.heap.size, 2, none⟩ = some (.int .i64 5) := cb 2
              have f3 : C.cell? ⟨y1.heap.size, 3, none⟩ = some (.int .i64 5) := cb 3
              have HGt := hide (grant_any ((unhide HOC).iv e he) ((unhide HGr).ok e he) i (V i).term 5 5 l7 z7)
              have HCb := hide hCb
              have HCs := hide hCs
              have HLe : Hid (hp e < y1.heap.size ∧ hp e ≠ wr.heap.size) := ⟨((unhide HO3).iv e he).lt, by have := (unhide HLM).2.2.2 e he; omega⟩
              clear hbC hCb hCs cb HO3 HX3 HTi
              go_wp2_with (rw [hC])
              refine (unhide HGt).mono ?_
              rintro e' y2 ⟨rfl, I2, u2⟩
              have HO4 := hide ((unhide HOC).vote he I2 u2)
              have hX4 : y2.heap[wr.heap.size]? = B.heap[wr.heap.size]? := (u2.block _ (by have := unhide HY1; have := unhide HCs; omega) (fun e2 => (unhide HLe).2 e2.symm)).trans (unhide HXC)
              have hC4 : y2.heap[y1.heap.size]? = some (.cells #[.int .i64 i, .int .i64 (V i).term, .int .i64 5, .int .i64 5] 36 (0, 0)) := (u2.block _ (by have := unhide HCs; omega) (fun e2 => by have h9 := (unhide HLe).1; have e3 : y1.heap.size = hp e := e2; omega)).trans (unhide HCb)
              have hIi : IsV y2 (hp i) (V i) := by have := (unhide HO4).iv i hi; rw [setV_other _ _ cie] at this; exact this
              have HIi := hide hIi
              have HTi4 := hide (term_yes hIi (unhide HOki))
              clear d2 d3 f0 f1 f2 f3 hIi I2 u2 HGt HCb HXC
              obtain ⟨_, _, d2, d3⟩ := unhide HBX y2 hX4
              have cb := fun o => cell_of_row y2 y1.heap.size o _ _ _ hC4
              have f0 : y2.cell? ⟨y1.heap.size, 0, none⟩ = some (.int .i64 i) := cb 0
              have f1 : y2.cell? ⟨y1.heap.size, 1, none⟩ = some (.int .i64 (V i).term) := cb 1
              have f2 : y2.cell? ⟨y1.heap.size, 2, none⟩ = some (.int .i64 5) := cb 2
              have f3 : y2.cell? ⟨y1.heap.size, 3, none⟩ = some (.int .i64 5) := cb 3
              obtain ⟨D2, oD2, rD2⟩ := (unhide HO4).om2
              have HD2 := hide oD2
              have HK2 := hide (key_mk (show I64 (e : Int) from ⟨by omega, by omega⟩) hI1)
              have hr2 := rD2 e _ (show e < 5 by omega) hI1
              clear cb hX4 hC4 oD2 hC HOC
              go_wp2_with fail
              refine (unhide HTi4).mono ?_
              rintro e' wq ⟨rfl, rfl⟩
              cases hy : (V e).grants i (V i).term 5 5 l7 z7
              · have HO6 := HO4
                have HIi6 := HIi
                clear hr2 HO4 HIi HTi4
                go_wp2_with (first | (at_lookup; refine wpList_lookup_own_ok_int _ rfl _ _ 46 rfl 51 3 .i64 key51 Try.underlying46 Try.underlying3 (Try.zeroValue3 _) m2 _ D2 rfl (unhide HD2) _ _ rfl (unhide HK2) ?_; intro c hat hwc) | fail)
                have HCi := hide (term_yes (unhide HIi6) (unhide HOki))
                go_wp2_with fail
                refine (unhide HCi).mono ?_
                rintro e' wq ⟨rfl, rfl⟩
                have HCt := hide (count_any (unhide HIi6) (unhide HOki) e (V i).term false)
                clear HCi
                go_wp2_with fail
                refine (unhide HCt).mono ?_
                rintro e' y7 ⟨rfl, I7, u7⟩
                have HOx := hide ((unhide HO6).vote hi I7 u7)
                have HGx := hide ((unhide HGr).grant hi he cie 5 5 l7 z7 false hy)
                have hge : (V e).term ≤ (setV (setV V e ((V e).grant i (V i).term 5 5 l7 z7)) i ((V i).count e (V i).term false) e).term := by
                  rw [setV_other _ _ (Ne.symm cie), setV_same]
                  obtain ⟨_, _, g3, _⟩ := (V e).grant_is i (V i).term 5 5 l7 z7
                  rcases g3 with g | g
                  · rw [g.1]; exact Int.le_refl _
                  · rw [g.2.1]; omega
                clear I7 u7 HCt HO6 HIi6
                have hgg : G = ifG false G e (V i).term i := rfl
                rw [hgg] at HOx
                generalize ifG false G e (V i).term i = G' at HOx HGx
                generalize setV (setV V e ((V e).grant i (V i).term 5 5 l7 z7)) i ((V i).count e (V i).term false) = V' at HOx HGx hge ⊢
                generalize (V e).term = was at hge ⊢
                clear HGr
                have HT1 := hide (term_yes ((unhide HOx).iv e he) ((unhide HGx).ok e he))
                go_wp2_with fail
                refine (unhide HT1).mono ?_
                rintro e' wq ⟨rfl, rfl⟩
                have HW1 := hide (won_any ((unhide HOx).iv i hi) ((unhide HGx).ok i hi))
                clear HT1
                go_wp2_with fail
                refine (unhide HW1).mono ?_
                rintro e' y8 ⟨rfl, hb8⟩
                have HO8 := hide ((unhide HOx).below hb8)
                clear hb8 HW1 HOx
                cases hwn : (V' i).won
                · go_wp2
                  go_roundw
                  case rel => exact ⟨t + 1, by omega, by go_num, _, _, _, (unhide HO8).more (by omega), (unhide HGx).later (by omega)⟩
                  case measure => simp [intOf]; omega
                · have HT2 := hide (term_yes ((unhide HO8).iv i hi) ((unhide HGx).ok i hi))
                  obtain ⟨D1, oD1, rD1⟩ := (unhide HO8).om1
                  have HD1 := hide oD1
                  have hI : I64 (V' i).term := by have a1 := ((unhide HGx).ok i hi).t0; have a2 := ((unhide HGx).ok i hi).t1; exact ⟨by omega, by omega⟩
                  have HKY := hide (key2_mk hI)
                  have hr1 := rD1 _ hI
                  clear oD1
                  go_wp2_with fail
                  refine (unhide HT2).mono ?_
                  rintro e' wq ⟨rfl, rfl⟩
                  cases hL : L (V' i).term with
                  | none =>
                    rw [hL] at hr1
                    have hhas : Maps.has D1 (.int .i64 (V' i).term) = false := hr1.1
                    go_wp2_with (first | (at_lookup; refine wpList_lookup_own_ok_int _ rfl _ _ 45 rfl 2 3 .i64 key2 Try.underlying45 Try.underlying3 (Try.zeroValue3 _) m1 _ D1 rfl (unhide HD1) _ _ rfl (unhide HKY) ?_; intro c hat hwc; rw [hhas]) | fail)
                    refine (unhide HT2).mono ?_
                    rintro e' wq ⟨rfl, rfl⟩
                    go_wp2_with (first | (at_mapUpdate; refine wpList_mapUpdate_in _ rfl _ _ _ 45 rfl 2 3 key2 Try.underlying45 R3 m1 _ D1 rfl (unhide HD1) (by unfold maxLen; omega) _ _ _ rfl rfl (unhide HKY) (.lit (.int .i64 i)) [] (unhide HVL) ?_; intro y9 o9 tn9) | fail)
                    have HF := hide ((unhide HO8).leads o9 (rD1.put (unhide HD1).isMap hI i) (upd_of_grown tn9.grown) (Nat.le_succ _))
                    clear o9 tn9
                    go_wp2
                    go_roundw
                    case rel => exact ⟨t + 1, by omega, by go_num, _, _, _, (unhide HF).more (by omega), ((unhide HGx).win hi hwn).later (by omega)⟩
                    case measure => simp [intOf]; omega
                  | some who =>
                    have hwho := (unhide HGx).alone hi hwn who hL
                    subst hwho
                    rw [hL] at hr1
                    have hhas : Maps.has D1 (.int .i64 (V' who).term) = true := hr1.1
                    have HAT := hide (hr1.2 who rfl (.lit (.int .i64 0)))
                    go_wp2_with (first | (at_lookup; refine wpList_lookup_own_ok_int _ rfl _ _ 45 rfl 2 3 .i64 key2 Try.underlying45 Try.underlying3 (Try.zeroValue3 _) m1 _ D1 rfl (unhide HD1) _ _ rfl (unhide HKY) ?_; intro c hat hwc; rw [hhas]; have hcw : c = who := (by have h2 := hat.symm.trans (unhide HAT); simpa using h2); subst hcw) | fail)
                    refine (unhide HT2).mono ?_
                    rintro e' wq ⟨rfl, rfl⟩
                    go_wp2_with (first | (at_mapUpdate; refine wpList_mapUpdate_in _ rfl _ _ _ 45 rfl 2 3 key2 Try.underlying45 R3 m1 _ D1 rfl (unhide HD1) (by unfold maxLen; omega) _ _ _ rfl rfl (unhide HKY) (.lit (.int .i64 who)) [] (unhide HVL) ?_; intro y9 o9 tn9) | fail)
                    have HF := hide ((unhide HO8).leads o9 (rD1.put (unhide HD1).isMap hI who) (upd_of_grown tn9.grown) (Nat.le_succ _))
                    clear o9 tn9
                    go_wp2
                    go_roundw
                    case rel => exact ⟨t + 1, by omega, by go_num, _, _, _, (unhide HF).more (by omega), ((unhide HGx).win hi hwn).later (by omega)⟩
                    case measure => simp [intOf]; omega
              · cases hGe : G e (V i).term with
                | none =>
                  rw [hGe] at hr2
                  have hhas : Maps.has D2 (kl e (V i).term) = false := hr2.1
                  go_wp2_with (first | (at_lookup; refine wpList_lookup_own_ok_int _ rfl _ _ 46 rfl 51 3 .i64 key51 Try.underlying46 Try.underlying3 (Try.zeroValue3 _) m2 _ D2 rfl (unhide HD2) _ _ rfl (unhide HK2) ?_; intro c hat hwc; rw [hhas]) | fail)
                  have HNw := hide (newer_any 0 0 l7 z7 i (V i).term 5 5 y2)
                  refine (unhide HNw).mono ?_
                  rintro e' y5 ⟨rfl, hb5⟩
                  have hnw : newer z7 l7 5 5 = false := by
                    have h1 := hy
                    simp only [Vt.grants, Vt.gives, Bool.and_eq_true, Bool.not_eq_true'] at h1
                    exact h1.2.2
                  rw [hnw]
                  have HO5 := hide ((unhide HO4).below hb5)
                  have HIi5 := hide ((unhide HIi).below hb5)
                  obtain ⟨D3, oD3, rD3⟩ := (unhide HO5).om2
                  have HD3 := hide oD3
                  clear hb5 oD3 HNw d2 d3 f0 f1 f2 f3 HD2
                  have HTi5 := hide (term_yes (unhide HIi5) (unhide HOki))
                  go_wp2_with fail
                  refine (unhide HTi5).mono ?_
                  rintro e' wq ⟨rfl, rfl⟩
                  go_wp2_with (first | (at_mapUpdate; refine wpList_mapUpdate_in _ rfl _ _ _ 46 rfl 51 3 key51 Try.underlying46 R3 m2 _ D3 rfl (unhide HD3) (by unfold maxLen; omega) _ _ _ rfl rfl (unhide HK2) (.lit (.int .i64 i)) [] (unhide HVL) ?_; intro y6 o6 tn6) | fail)
                  have hup := upd_of_grown tn6.grown
                  have HO6 := hide ((unhide HO5).gives o6 (rD3.put (unhide HD3).isMap (show e < 5 by omega) hI1 i) hup (Nat.le_succ _))
                  have HIi6 := hide ((unhide HIi5).upd hup (Nat.le_refl _) ((unhide HO5).h2 i hi))
                  clear o6 tn6 hup HO5 HIi5 HTi5
                  have HCi := hide (term_yes (unhide HIi6) (unhide HOki))
                  go_wp2_with fail
                  refine (unhide HCi).mono ?_
                  rintro e' wq ⟨rfl, rfl⟩
                  have HCt := hide (count_any (unhide HIi6) (unhide HOki) e (V i).term true)
                  clear HCi
                  go_wp2_with fail
                  refine (unhide HCt).mono ?_
                  rintro e' y7 ⟨rfl, I7, u7⟩
                  have HOx := hide ((unhide HO6).vote hi I7 u7)
                  have HGx := hide ((unhide HGr).grant hi he cie 5 5 l7 z7 true hy)
                  have hge : (V e).term ≤ (setV (setV V e ((V e).grant i (V i).term 5 5 l7 z7)) i ((V i).count e (V i).term true) e).term := by
                    rw [setV_other _ _ (Ne.symm cie), setV_same]
                    obtain ⟨_, _, g3, _⟩ := (V e).grant_is i (V i).term 5 5 l7 z7
                    rcases g3 with g | g
                    · rw [g.1]; exact Int.le_refl _
                    · rw [g.2.1]; omega
                  clear I7 u7 HCt HO6 HIi6
                  have hgg : putG G e (V i).term i = ifG true G e (V i).term i := rfl
                  rw [hgg] at HOx
                  generalize ifG true G e (V i).term i = G' at HOx HGx
                  generalize setV (setV V e ((V e).grant i (V i).term 5 5 l7 z7)) i ((V i).count e (V i).term true) = V' at HOx HGx hge ⊢
                  generalize (V e).term = was at hge ⊢
                  clear HGr
                  have HT1 := hide (term_yes ((unhide HOx).iv e he) ((unhide HGx).ok e he))
                  go_wp2_with fail
                  refine (unhide HT1).mono ?_
                  rintro e' wq ⟨rfl, rfl⟩
                  have HW1 := hide (won_any ((unhide HOx).iv i hi) ((unhide HGx).ok i hi))
                  clear HT1
                  go_wp2_with fail
                  refine (unhide HW1).mono ?_
                  rintro e' y8 ⟨rfl, hb8⟩
                  have HO8 := hide ((unhide HOx).below hb8)
                  clear hb8 HW1 HOx
                  cases hwn : (V' i).won
                  · go_wp2
                    go_roundw
                    case rel => exact ⟨t + 1, by omega, by go_num, _, _, _, (unhide HO8).more (by omega), (unhide HGx).later (by omega)⟩
                    case measure => simp [intOf]; omega
                  · have HT2 := hide (term_yes ((unhide HO8).iv i hi) ((unhide HGx).ok i hi))
                    obtain ⟨D1, oD1, rD1⟩ := (unhide HO8).om1
                    have HD1 := hide oD1
                    have hI : I64 (V' i).term := by have a1 := ((unhide HGx).ok i hi).t0; have a2 := ((unhide HGx).ok i hi).t1; exact ⟨by omega, by omega⟩
                    have HKY := hide (key2_mk hI)
                    have hr1 := rD1 _ hI
                    clear oD1
                    go_wp2_with fail
                    refine (unhide HT2).mono ?_
                    rintro e' wq ⟨rfl, rfl⟩
                    cases hL : L (V' i).term with
                    | none =>
                      rw [hL] at hr1
                      have hhas : Maps.has D1 (.int .i64 (V' i).term) = false := hr1.1
                      go_wp2_with (first | (at_lookup; refine wpList_lookup_own_ok_int _ rfl _ _ 45 rfl 2 3 .i64 key2 Try.underlying45 Try.underlying3 (Try.zeroValue3 _) m1 _ D1 rfl (unhide HD1) _ _ rfl (unhide HKY) ?_; intro c hat hwc; rw [hhas]) | fail)
                      refine (unhide HT2).mono ?_
                      rintro e' wq ⟨rfl, rfl⟩
                      go_wp2_with (first | (at_mapUpdate; refine wpList_mapUpdate_in _ rfl _ _ _ 45 rfl 2 3 key2 Try.underlying45 R3 m1 _ D1 rfl (unhide HD1) (by unfold maxLen; omega) _ _ _ rfl rfl (unhide HKY) (.lit (.int .i64 i)) [] (unhide HVL) ?_; intro y9 o9 tn9) | fail)
                      have HF := hide ((unhide HO8).leads o9 (rD1.put (unhide HD1).isMap hI i) (upd_of_grown tn9.grown) (Nat.le_succ _))
                      clear o9 tn9
                      go_wp2
                      go_roundw
                      case rel => exact ⟨t + 1, by omega, by go_num, _, _, _, (unhide HF).more (by omega), ((unhide HGx).win hi hwn).later (by omega)⟩
                      case measure => simp [intOf]; omega
                    | some who =>
                      have hwho := (unhide HGx).alone hi hwn who hL
                      subst hwho
                      rw [hL] at hr1
                      have hhas : Maps.has D1 (.int .i64 (V' who).term) = true := hr1.1
                      have HAT := hide (hr1.2 who rfl (.lit (.int .i64 0)))
                      go_wp2_with (first | (at_lookup; refine wpList_lookup_own_ok_int _ rfl _ _ 45 rfl 2 3 .i64 key2 Try.underlying45 Try.underlying3 (Try.zeroValue3 _) m1 _ D1 rfl (unhide HD1) _ _ rfl (unhide HKY) ?_; intro c hat hwc; rw [hhas]; have hcw : c = who := (by have h2 := hat.symm.trans (unhide HAT); simpa using h2); subst hcw) | fail)
                      refine (unhide HT2).mono ?_
                      rintro e' wq ⟨rfl, rfl⟩
                      go_wp2_with (first | (at_mapUpdate; refine wpList_mapUpdate_in _ rfl _ _ _ 45 rfl 2 3 key2 Try.underlying45 R3 m1 _ D1 rfl (unhide HD1) (by unfold maxLen; omega) _ _ _ rfl rfl (unhide HKY) (.lit (.int .i64 who)) [] (unhide HVL) ?_; intro y9 o9 tn9) | fail)
                      have HF := hide ((unhide HO8).leads o9 (rD1.put (unhide HD1).isMap hI who) (upd_of_grown tn9.grown) (Nat.le_succ _))
                      clear o9 tn9
                      go_wp2
                      go_roundw
                      case rel => exact ⟨t + 1, by omega, by go_num, _, _, _, (unhide HF).more (by omega), ((unhide HGx).win hi hwn).later (by omega)⟩
                      case measure => simp [intOf]; omega
                | some who =>
                  have hwho := (unhide HGr).sure he (V i).term 5 5 l7 z7 hy who hGe
                  rw [hGe] at hr2
                  have hhas : Maps.has D2 (kl e (V i).term) = true := hr2.1
                  have HAT := hide (hr2.2 who rfl (.lit (.int .i64 0)))
                  go_wp2_with (first | (at_lookup; refine wpList_lookup_own_ok_int _ rfl _ _ 46 rfl 51 3 .i64 key51 Try.underlying46 Try.underlying3 (Try.zeroValue3 _) m2 _ D2 rfl (unhide HD2) _ _ rfl (unhide HK2) ?_; intro c hat hwc; rw [hhas]; have hcw : c = i := (by have h2 := hat.symm.trans (unhide HAT); rw [hwho] at h2; simpa using h2); rw [hcw]; clear hat hwc) | fail)
                  have HNw := hide (newer_any 0 0 l7 z7 i (V i).term 5 5 y2)
                  refine (unhide HNw).mono ?_
                  rintro e' y5 ⟨rfl, hb5⟩
                  have hnw : newer z7 l7 5 5 = false := by
                    have h1 := hy
                    simp only [Vt.grants, Vt.gives, Bool.and_eq_true, Bool.not_eq_true'] at h1
                    exact h1.2.2
                  rw [hnw]
                  have HO5 := hide ((unhide HO4).below hb5)
                  have HIi5 := hide ((unhide HIi).below hb5)
                  obtain ⟨D3, oD3, rD3⟩ := (unhide HO5).om2
                  have HD3 := hide oD3
                  clear hb5 oD3 HNw d2 d3 f0 f1 f2 f3 HD2
                  have HTi5 := hide (term_yes (unhide HIi5) (unhide HOki))
                  go_wp2_with fail
                  refine (unhide HTi5).mono ?_
                  rintro e' wq ⟨rfl, rfl⟩
                  go_wp2_with (first | (at_mapUpdate; refine wpList_mapUpdate_in _ rfl _ _ _ 46 rfl 51 3 key51 Try.underlying46 R3 m2 _ D3 rfl (unhide HD3) (by unfold maxLen; omega) _ _ _ rfl rfl (unhide HK2) (.lit (.int .i64 i)) [] (unhide HVL) ?_; intro y6 o6 tn6) | fail)
                  have hup := upd_of_grown tn6.grown
                  have HO6 := hide ((unhide HO5).gives o6 (rD3.put (unhide HD3).isMap (show e < 5 by omega) hI1 i) hup (Nat.le_succ _))
                  have HIi6 := hide ((unhide HIi5).upd hup (Nat.le_refl _) ((unhide HO5).h2 i hi))
                  clear o6 tn6 hup HO5 HIi5 HTi5
                  have HCi := hide (term_yes (unhide HIi6) (unhide HOki))
                  go_wp2_with fail
                  refine (unhide HCi).mono ?_
                  rintro e' wq ⟨rfl, rfl⟩
                  have HCt := hide (count_any (unhide HIi6) (unhide HOki) e (V i).term true)
                  clear HCi
                  go_wp2_with fail
                  refine (unhide HCt).mono ?_
                  rintro e' y7 ⟨rfl, I7, u7⟩
                  have HOx := hide ((unhide HO6).vote hi I7 u7)
                  have HGx := hide ((unhide HGr).grant hi he cie 5 5 l7 z7 true hy)
                  have hge : (V e).term ≤ (setV (setV V e ((V e).grant i (V i).term 5 5 l7 z7)) i ((V i).count e (V i).term true) e).term := by
                    rw [setV_other _ _ (Ne.symm cie), setV_same]
                    obtain ⟨_, _, g3, _⟩ := (V e).grant_is i (V i).term 5 5 l7 z7
                    rcases g3 with g | g
                    · rw [g.1]; exact Int.le_refl _
                    · rw [g.2.1]; omega
                  clear I7 u7 HCt HO6 HIi6
                  have hgg : putG G e (V i).term i = ifG true G e (V i).term i := rfl
                  rw [hgg] at HOx
                  generalize ifG true G e (V i).term i = G' at HOx HGx
                  generalize setV (setV V e ((V e).grant i (V i).term 5 5 l7 z7)) i ((V i).count e (V i).term true) = V' at HOx HGx hge ⊢
                  generalize (V e).term = was at hge ⊢
                  clear HGr
                  have HT1 := hide (term_yes ((unhide HOx).iv e he) ((unhide HGx).ok e he))
                  go_wp2_with fail
                  refine (unhide HT1).mono ?_
                  rintro e' wq ⟨rfl, rfl⟩
                  have HW1 := hide (won_any ((unhide HOx).iv i hi) ((unhide HGx).ok i hi))
                  clear HT1
                  go_wp2_with fail
                  refine (unhide HW1).mono ?_
                  rintro e' y8 ⟨rfl, hb8⟩
                  have HO8 := hide ((unhide HOx).below hb8)
                  clear hb8 HW1 HOx
                  cases hwn : (V' i).won
                  · go_wp2
                    go_roundw
                    case rel => exact ⟨t + 1, by omega, by go_num, _, _, _, (unhide HO8).more (by omega), (unhide HGx).later (by omega)⟩
                    case measure => simp [intOf]; omega
                  · have HT2 := hide (term_yes ((unhide HO8).iv i hi) ((unhide HGx).ok i hi))
                    obtain ⟨D1, oD1, rD1⟩ := (unhide HO8).om1
                    have HD1 := hide oD1
                    have hI : I64 (V' i).term := by have a1 := ((unhide HGx).ok i hi).t0; have a2 := ((unhide HGx).ok i hi).t1; exact ⟨by omega, by omega⟩
                    have HKY := hide (key2_mk hI)
                    have hr1 := rD1 _ hI
                    clear oD1
                    go_wp2_with fail
                    refine (unhide HT2).mono ?_
                    rintro e' wq ⟨rfl, rfl⟩
                    cases hL : L (V' i).term with
                    | none =>
                      rw [hL] at hr1
                      have hhas : Maps.has D1 (.int .i64 (V' i).term) = false := hr1.1
                      go_wp2_with (first | (at_lookup; refine wpList_lookup_own_ok_int _ rfl _ _ 45 rfl 2 3 .i64 key2 Try.underlying45 Try.underlying3 (Try.zeroValue3 _) m1 _ D1 rfl (unhide HD1) _ _ rfl (unhide HKY) ?_; intro c hat hwc; rw [hhas]) | fail)
                      refine (unhide HT2).mono ?_
                      rintro e' wq ⟨rfl, rfl⟩
                      go_wp2_with (first | (at_mapUpdate; refine wpList_mapUpdate_in _ rfl _ _ _ 45 rfl 2 3 key2 Try.underlying45 R3 m1 _ D1 rfl (unhide HD1) (by unfold maxLen; omega) _ _ _ rfl rfl (unhide HKY) (.lit (.int .i64 i)) [] (unhide HVL) ?_; intro y9 o9 tn9) | fail)
                      have HF := hide ((unhide HO8).leads o9 (rD1.put (unhide HD1).isMap hI i) (upd_of_grown tn9.grown) (Nat.le_succ _))
                      clear o9 tn9
                      go_wp2
                      go_roundw
                      case rel => exact ⟨t + 1, by omega, by go_num, _, _, _, (unhide HF).more (by omega), ((unhide HGx).win hi hwn).later (by omega)⟩
                      case measure => simp [intOf]; omega
                    | some who =>
                      have hwho := (unhide HGx).alone hi hwn who hL
                      subst hwho
                      rw [hL] at hr1
                      have hhas : Maps.has D1 (.int .i64 (V' who).term) = true := hr1.1
                      have HAT := hide (hr1.2 who rfl (.lit (.int .i64 0)))
                      go_wp2_with (first | (at_lookup; refine wpList_lookup_own_ok_int _ rfl _ _ 45 rfl 2 3 .i64 key2 Try.underlying45 Try.underlying3 (Try.zeroValue3 _) m1 _ D1 rfl (unhide HD1) _ _ rfl (unhide HKY) ?_; intro c hat hwc; rw [hhas]; have hcw : c = who := (by have h2 := hat.symm.trans (unhide HAT); simpa using h2); subst hcw) | fail)
                      refine (unhide HT2).mono ?_
                      rintro e' wq ⟨rfl, rfl⟩
                      go_wp2_with (first | (at_mapUpdate; refine wpList_mapUpdate_in _ rfl _ _ _ 45 rfl 2 3 key2 Try.underlying45 R3 m1 _ D1 rfl (unhide HD1) (by unfold maxLen; omega) _ _ _ rfl rfl (unhide HKY) (.lit (.int .i64 who)) [] (unhide HVL) ?_; intro y9 o9 tn9) | fail)
                      have HF := hide ((unhide HO8).leads o9 (rD1.put (unhide HD1).isMap hI who) (upd_of_grown tn9.grown) (Nat.le_succ _))
                      clear o9 tn9
                      go_wp2
                      go_roundw
                      case rel => exact ⟨t + 1, by omega, by go_num, _, _, _, (unhide HF).more (by omega), ((unhide HGx).win hi hwn).later (by omega)⟩
                      case measure => simp [intOf]; omega
        · have HE := hide hO.bel
          clear hO hG
          go_wp2_with fail
          refine (live_any wr).mono ?_
          rintro e w5 ⟨rfl, hb5⟩
          have HE5 := hide ((unhide HE).trans (hb5.mono (unhide HE).size))
          clear hb5
          go_wp2
          go_ret
          exact ⟨rfl, unhide HE5⟩
end Go.Proofs.Ytpadbbkklmgimaa
