/- The document's Locks. -/
import Derived.Test.YtibjhjkeflbghaaKF
import Derived.Test.YtibjhjkeflbghaaKC
import Derived.Test.YtibjhjkeflbghaaB1
namespace Go.Proofs.Ytibjhjkeflbghaa
open Go.RowKit
set_option maxRecDepth 100000

theorem rhas_b {v : Value} {l : List Ky} {w : World} (hs : SeesL kC 2 w v l) (k0 k1 : Int) : Calls Try.prog 19 #[v, .agg #[.int .i32 k0, .int .i64 k1]] w fun e w' => e = .returned (.bool (decide ((k0, k1) ∈ l))) ∧ Below w.heap.size w w' :=
  (rhas_any hs k0 k1).mono fun _ _ ⟨h1, h2⟩ => ⟨h1, h2.below⟩

theorem lk_app {wr z : World} {B t : Nat} {av : Option Addr} {cv : Nat} {l : List Lk} {a b : Int} {d : Bool} (hor : wr.ownsRow B 39 3 (.slice av t cv) t (l.flatMap lC)) (hz : Below wr.heap.size wr z) (hB : B ≤ wr.heap.size) (ht : t ≤ 4398046511104) :
    ∃ a5 k5 y5, (Builtin.append_ #[35, 35] 35 #[.slice av t cv, .slice (some ⟨z.heap.size, 0, none⟩) 1 1]).run Try.prog (z.alloc (.cells #[.int .i32 a, .int .i64 b, .bool d] 39)) = .ok (.slice a5 (t + 1) k5) y5 ∧ y5.ownsRow B 39 3 (.slice a5 (t + 1) k5) (t + 1) ((l ++ [((a, b), d)]).flatMap lC) ∧ (Below B wr y5 ∧ True) := by
  have ho4 := own_below (own_below hor hz) (below_box (w := z) (.cells #[.int .i32 a, .int .i64 b, .bool d] 39))
  have hBz : B ≤ (z.alloc (.cells #[.int .i32 a, .int .i64 b, .bool d] 39)).heap.size := Nat.le_trans (Nat.le_trans hB hz.size) (by simp)
  obtain ⟨v', y5, r5, o5, g5⟩ := append_locks 35 ho4 (sees_oneL z ((a, b), d)) (by simp only [List.length_cons, List.length_nil]; omega) hBz
  obtain ⟨a5, k5, e5⟩ := own_shape o5
  simp only [List.length_cons, List.length_nil] at e5 o5
  subst e5
  exact ⟨a5, k5, y5, r5, o5, ((hz.mono hB).trans ((below_box _).mono (Nat.le_trans hB hz.size))).trans ((Below.refl _ _).grown g5 hBz (own_block_le ho4)), trivial⟩

set_option maxHeartbeats 6400000 in
theorem rlkX_any {x : Tx} {w : World} (hx : SeesX w x) (hsh : Short x) : Calls Try.prog 15 #[xV x] w fun e w' => ∃ v, e = .returned v ∧ w'.ownsRow w.heap.size 39 3 v (lkX x).length ((lkX x).flatMap lC) ∧ Below w.heap.size w w' := by
  obtain ⟨⟨ac, nc, cc, hc⟩, ⟨aa, na, ca, ha⟩⟩ := And.intro hx.shc hx.sha
  obtain ⟨ar, cr, hr⟩ := hx.rs.shape
  obtain ⟨aw, cw, hw⟩ := hx.ws.shape
  obtain ⟨nr, hnr⟩ : ∃ z, x.rs.length = z := ⟨_, rfl⟩
  obtain ⟨nw, hnw⟩ : ∃ z, x.ws.length = z := ⟨_, rfl⟩
  obtain ⟨s, hs⟩ : ∃ z, x.s = z := ⟨_, rfl⟩
  obtain ⟨r, hrr⟩ : ∃ z, x.r = z := ⟨_, rfl⟩
  rw [hnr] at hr
  rw [hnw] at hw
  have hxV : xV x = .agg #[.int .i64 s, .int .i64 r, .slice ac nc cc, .slice aa na ca, .slice ar nr cr, .slice aw nw cw] := by unfold xV; rw [hc, ha, hr, hw, hs, hrr]
  obtain ⟨Y, hY⟩ : ∃ y, w.alloc (.cells #[.int .i64 s, .int .i64 r, .slice ac nc cc, .slice aa na ca, .slice ar nr cr, .slice aw nw cw] 26) = y := ⟨_, rfl⟩
  have bY : Below w.heap.size w Y := hY ▸ below_box _
  have xY : Y.heap[w.heap.size]? = some (.cells #[.int .i64 s, .int .i64 r, .slice ac nc cc, .slice aa na ca, .slice ar nr cr, .slice aw nw cw] 26) := hY ▸ heap_alloc_new w _
  have HC : Hid (∀ z, Below Y.heap.size Y z → z.cell? ⟨w.heap.size, 4, none⟩ = some (.slice ar nr cr) ∧ z.cell? ⟨w.heap.size, 5, none⟩ = some (.slice aw nw cw)) := fun z hz => by
    have h := (hz.block _ (Array.getElem?_eq_some_iff.1 xY).1).trans xY
    exact ⟨cell_at h, cell_at h⟩
  have HRS : Hid (∀ z, Below Y.heap.size Y z → SeesL kC 2 z (.slice ar nr cr) x.rs) := fun z hz => hr ▸ (hx.rs.below kC_len bY).below kC_len hz
  have HWS : Hid (∀ z, Below Y.heap.size Y z → SeesL kC 2 z (.slice aw nw cw) x.ws) := fun z hz => hw ▸ (hx.ws.below kC_len bY).below kC_len hz
  have hll : nr + nw ≤ 4398046511104 := by rw [← hnr, ← hnw]; exact hsh
  obtain ⟨R, hR⟩ : ∃ R, x.rs = R := ⟨_, rfl⟩
  obtain ⟨W, hW⟩ : ∃ R, x.ws = R := ⟨_, rfl⟩
  have hlk : lkX x = (srt (R ++ W)).map fun k => (k, decide (k ∈ W)) := by rw [← hR, ← hW]; rfl
  rw [hR] at HRS hnr
  rw [hW] at HWS hnw
  obtain ⟨KK, hK⟩ : ∃ KK, srt (R ++ W) = KK := ⟨_, rfl⟩
  obtain ⟨kn, hkn⟩ : ∃ m, KK.length = m := ⟨_, rfl⟩
  have hknb : kn ≤ 4398046511104 := by rw [← hkn, ← hK]; exact Nat.le_trans (srt_len _) (by rw [List.length_append]; omega)
  rw [hK] at hlk
  -- the two appends
  obtain ⟨v1, w1, r1, o1, g1⟩ := append_keys (n := 0) (l := []) (l2 := R) (w := Y.drew) (base := Y.heap.size) 24 (own_nil Y.drew Y.heap.size 37 2 : Y.drew.ownsRow Y.heap.size 37 2 (.slice none 0 0) 0 (([] : List Ky).flatMap kC)) (unhide HRS Y.drew ((Below.refl _ _).drew)) (by omega) (Nat.le_refl _)
  have b1 : Below Y.heap.size Y w1 := ((Below.refl _ _).drew).trans ((Below.refl _ _).grown g1 (Nat.le_refl _) (fun k hk => by simp [Value.ownBlock] at hk))
  obtain ⟨v2, w2, r2, o2, g2⟩ := append_keys (n := 0 + R.length) (l := [] ++ R) (l2 := W) 24 o1 (unhide HWS w1 b1) (by omega) b1.size
  have b2 : Below Y.heap.size Y w2 := b1.trans ((Below.refl _ _).grown g2 b1.size (own_block_le o1))
  rw [List.nil_append, Nat.zero_add] at o1 o2
  have hK7 : Calls Try.prog 41 #[v2] w2 fun e w' => ∃ r, e = .returned r ∧ w'.ownsRow w2.heap.size 37 2 r kn (KK.flatMap kC) ∧ Below w2.heap.size w2 w' := by
    have h := rkeys_any (own_sees kC_len (by decide) o2).2 (by rw [List.length_append]; omega)
    rw [hK, hkn] at h
    exact h
  obtain ⟨a1, c1, e1⟩ := own_shape o1
  obtain ⟨a2, c2, e2⟩ := own_shape o2
  subst e1 e2
  have HB := hide (And.intro bY (And.intro b1 b2))
  have HR1 := hide r1
  have HR2 := hide r2
  have HK7 := hide hK7
  have HLK := hide hlk
  have HKN := hide hkn
  have HY := hide hY
  rw [hxV]
  clear hx hsh hc ha hr hw hs hrr hxV bY xY hY hnr hnw hll hR hW hlk hK hkn o1 g1 b1 o2 g2 b2 r1 r2 hK7 HRS
  go_enter Try.func15, Try.ntmps15
  go_wp2_with (rw [unhide HY])
  refine wp_region_held_drew (S := fun x => Below Y.heap.size Y x) (by kernel_rfl) ((Below.refl _ _).drew) (fun hHeld => ?_)
  refine wpAnyH_take (i := 0) (v := ?v1x0) rfl (by kernel_rfl) (by kernel_rfl) (by kernel_rfl) (fun _ _ _ h => h) (Or.inl ⟨by rfl, ?hy1x0⟩) (by assumption) ?rest1x0
  case hy1x0 => intro w hSw; go_simp <;> with_reducible rfl
  simp only [Act.put, List.getElem_toArray, List.getElem_cons_zero, List.setIfInBounds_toArray, List.set_cons_zero, List.set_cons_succ]
  refine wpAnyH_take (i := 1) (v := ?v2x1) rfl (by kernel_rfl) (by kernel_rfl) (by kernel_rfl) (fun _ _ _ h => h) (Or.inl ⟨by rfl, ?hy2x1⟩) (by assumption) ?rest2x1
  case hy2x1 => intro w hSw; go_simp <;> with_reducible rfl
  simp only [Act.put, List.getElem_toArray, List.getElem_cons_zero, List.getElem_cons_succ, List.setIfInBounds_toArray, List.set_cons_zero, List.set_cons_succ]
  refine wpAnyH_take (i := 2) (v := (.slice ar nr cr)) rfl (by kernel_rfl) (by kernel_rfl) (by kernel_rfl) (fun _ _ _ h => h) (Or.inl ⟨by rfl, ?hy3x2⟩) (by assumption) ?rest3x2
  case hy3x2 => intro w hSw; obtain ⟨s1, s2⟩ := unhide HC _ hSw; go_simp <;> with_reducible rfl
  simp only [Act.put, List.getElem_toArray, List.getElem_cons_zero, List.getElem_cons_succ, List.setIfInBounds_toArray, List.set_cons_zero, List.set_cons_succ]
  refine wpAnyH_take (i := 4) (v := ?v4x4) rfl (by kernel_rfl) (by kernel_rfl) (by kernel_rfl) (fun _ _ _ h => h) (Or.inl ⟨by rfl, ?hy4x4⟩) (by assumption) ?rest4x4
  case hy4x4 => intro w hSw; go_simp <;> with_reducible rfl
  simp only [Act.put, List.getElem_toArray, List.getElem_cons_zero, List.getElem_cons_succ, List.setIfInBounds_toArray, List.set_cons_zero, List.set_cons_succ]
  refine wpAnyH_take (i := 5) (v := (.slice aw nw cw)) rfl (by kernel_rfl) (by kernel_rfl) (by kernel_rfl) (fun _ _ _ h => h) (Or.inl ⟨by rfl, ?hy5x5⟩) (by assumption) ?rest5x5
  case hy5x5 => intro w hSw; obtain ⟨s1, s2⟩ := unhide HC _ hSw; go_simp <;> with_reducible rfl
  simp only [Act.put, List.getElem_toArray, List.getElem_cons_zero, List.getElem_cons_succ, List.setIfInBounds_toArray, List.set_cons_zero, List.set_cons_succ]
  refine wpAnyH_ready (rs := [3]) (by kernel_rfl) (by simp) ?_
  refine AllReadyH.cons rfl (fun K hK => ?_) AllReadyH.nil
  rw [if_pos (by rfl)]
  refine append_upon rfl rfl rfl (unhide HR1) ?_
  simp only [Act.put, List.getElem_toArray, List.getElem_cons_zero, List.getElem_cons_succ, List.setIfInBounds_toArray, List.set_cons_zero, List.set_cons_succ]
  refine hK _ _ (unhide HB).2.1 ?_
  clear hK hHeld
  intro hHeld
  refine wpAnyH_ready (rs := [6]) (by kernel_rfl) (by simp) ?_
  refine AllReadyH.cons rfl (fun K hK => ?_) AllReadyH.nil
  rw [if_pos (by rfl)]
  refine append_upon rfl rfl rfl (unhide HR2) ?_
  simp only [Act.put, List.getElem_toArray, List.getElem_cons_zero, List.getElem_cons_succ, List.setIfInBounds_toArray, List.set_cons_zero, List.set_cons_succ]
  refine hK _ _ (unhide HB).2.2 ?_
  clear hK hHeld
  intro hHeld
  refine wpAnyH_ready (rs := [7]) (by kernel_rfl) (by simp) ?_
  refine AllReadyH.cons rfl (fun K hK => ?_) AllReadyH.nil
  go_simp
  refine (unhide HK7).mono ?_
  rintro e w3 ⟨v3, rfl, ho3, hb3⟩
  refine hK _ _ ((unhide HB).2.2.trans (hb3.mono (unhide HB).2.2.size)) ?_
  clear hK hHeld
  have HO3 := hide ho3
  have HB3 : Hid (Below Y.heap.size Y w3) := (unhide HB).2.2.trans (hb3.mono (unhide HB).2.2.size)
  obtain ⟨a3, c3, e3⟩ := own_shape ho3
  subst e3
  clear ho3 hb3
  intro hHeld
  refine wpAnyH_take (i := 8) (v := ?v6x8) rfl (by kernel_rfl) (by kernel_rfl) (by kernel_rfl) (fun _ _ _ h => h) (Or.inl ⟨by rfl, ?hy6x8⟩) (by assumption) ?rest6x8
  case hy6x8 => intro w hSw; go_simp <;> with_reducible rfl
  simp only [Act.put, List.getElem_toArray, List.getElem_cons_zero, List.getElem_cons_succ, List.setIfInBounds_toArray, List.set_cons_zero, List.set_cons_succ]
  refine wpAnyH_done (by kernel_rfl) ?_ _
  have HSK : Hid (∀ z, Below w3.heap.size w3 z → SeesL kC 2 z (.slice a3 kn c3) KK) := fun z hz => (own_sees kC_len (by decide) (unhide HO3)).2.below kC_len hz
  have HBW : Hid (Below w.heap.size w w3) := (unhide HB).1.trans ((unhide HB3).mono (unhide HB).1.size)
  go_wp2
  go_loopw [4, 5] (fun o c wr => ∃ t : Nat, t ≤ kn ∧ c = .int .i64 t ∧ wr.ownsRow w3.heap.size 39 3 o t (((KK.take t).map fun k => (k, decide (k ∈ W))).flatMap lC) ∧ Below w3.heap.size w3 wr) (fun _ c _ => kn - (intOf c).toNat)
  case atStart => exact ⟨0, by omega, rfl, by simpa using own_nil _ _ _ _, Below.refl _ _⟩
  case round =>
    obtain ⟨t, ht, rfl, hor, hbr⟩ := hrel
    obtain ⟨av, cv, hov⟩ := own_shape hor
    by_cases hlt : t < kn
    · have hkl := unhide HKN
      have htl : t < KK.length := by omega
      obtain ⟨gb, ob, hao, -, hcx⟩ := key_cells (unhide HSK w3 (Below.refl _ _)) rfl htl
      subst hao
      obtain ⟨⟨a, b⟩, hx⟩ : ∃ k, KK.getD t default = k := ⟨_, rfl⟩
      have hx' : KK[t] = (a, b) := by rw [← hx]; simp [List.getD, htl]
      rw [hx] at hcx
      obtain ⟨d, hd⟩ : ∃ d, decide ((a, b) ∈ W) = d := ⟨_, rfl⟩
      have htk : ((KK.take (t + 1)).map fun k => (k, decide (k ∈ W))) = ((KK.take t).map fun k => (k, decide (k ∈ W))) ++ [((a, b), d)] := by rw [List.take_succ_eq_append_getElem htl, hx', List.map_append, ← hd]; rfl
      have hbY : Below Y.heap.size Y wr := (unhide HB3).trans (hbr.mono (unhide HB3).size)
      have H19 : Hid (Calls Try.prog 19 #[.slice aw nw cw, .agg #[.int .i32 a, .int .i64 b]] wr.drew fun e w' => e = .returned (.bool d) ∧ Below wr.drew.heap.size wr.drew w') := hd ▸ rhas_b (unhide HWS wr.drew hbY.drew) a b
      have HG : Hid (∀ z, Below w3.heap.size w3 z → z.cell? ⟨gb, ob + t * 2, none⟩ = some (.int .i32 a) ∧ z.cell? ⟨gb, ob + t * 2 + 1, none⟩ = some (.int .i64 b) ∧ z.cell? ⟨w.heap.size, 5, none⟩ = some (.slice aw nw cw)) := fun z hz => ⟨(hcx z hz).1, (hcx z hz).2, (unhide HC z ((unhide HB3).trans (hz.mono (unhide HB3).size))).2⟩
      have HOR := hide hor
      have HBR := hide hbr
      have HTK := hide htk
      have ht42 : t ≤ 4398046511104 := by omega
      subst hov
      clear hkl hx hx' hcx hd htk hbY htl hor hbr
      go_wp2
      refine wp_region_held_drew (S := fun x => Below w3.heap.size w3 x) (by kernel_rfl) (unhide HBR).drew (fun hHeld => ?_)
      refine wpAnyH_take (i := 0) (v := ?v7x0) rfl (by kernel_rfl) (by kernel_rfl) (by kernel_rfl) (fun _ _ _ h => h) (Or.inl ⟨by rfl, ?hy7x0⟩) (by assumption) ?rest7x0
      case hy7x0 => intro w hSw; go_simp <;> with_reducible rfl
      simp only [Act.put, List.getElem_toArray, List.getElem_cons_zero, List.setIfInBounds_toArray, List.set_cons_zero, List.set_cons_succ]
      refine wpAnyH_take (i := 1) (v := ?v8x1) rfl (by kernel_rfl) (by kernel_rfl) (by kernel_rfl) (fun _ _ _ h => h) (Or.inl ⟨by rfl, ?hy8x1⟩) (by assumption) ?rest8x1
      case hy8x1 => intro w hSw; go_simp <;> with_reducible rfl
      simp only [Act.put, List.getElem_toArray, List.getElem_cons_zero, List.getElem_cons_succ, List.setIfInBounds_toArray, List.set_cons_zero, List.set_cons_succ]
      refine wpAnyH_take (i := 2) (v := ?v9x2) rfl (by kernel_rfl) (by kernel_rfl) (by kernel_rfl) (fun _ _ _ h => h) (Or.inl ⟨by rfl, ?hy9x2⟩) (by assumption) ?rest9x2
      case hy9x2 => intro w hSw; go_simp <;> with_reducible rfl
      simp only [Act.put, List.getElem_toArray, List.getElem_cons_zero, List.getElem_cons_succ, List.setIfInBounds_toArray, List.set_cons_zero, List.set_cons_succ]
      refine wpAnyH_take (i := 3) (v := ?v10x3) rfl (by kernel_rfl) (by kernel_rfl) (by kernel_rfl) (fun _ _ _ h => h) (Or.inl ⟨by rfl, ?hy10x3⟩) (by assumption) ?rest10x3
      case hy10x3 => intro w hSw; go_simp <;> with_reducible rfl
      simp only [Act.put, List.getElem_toArray, List.getElem_cons_zero, List.getElem_cons_succ, List.setIfInBounds_toArray, List.set_cons_zero, List.set_cons_succ]
      refine wpAnyH_take (i := 4) (v := (.agg #[.int .i32 a, .int .i64 b])) rfl (by kernel_rfl) (by kernel_rfl) (by kernel_rfl) (fun _ _ _ h => h) (Or.inl ⟨by rfl, ?hy11x4⟩) (by assumption) ?rest11x4
      case hy11x4 => intro w hSw; obtain ⟨s1, s2, s3⟩ := unhide HG _ hSw; go_simp <;> with_reducible rfl
      simp only [Act.put, List.getElem_toArray, List.getElem_cons_zero, List.getElem_cons_succ, List.setIfInBounds_toArray, List.set_cons_zero, List.set_cons_succ]
      refine wpAnyH_take (i := 5) (v := ?v12x5) rfl (by kernel_rfl) (by kernel_rfl) (by kernel_rfl) (fun _ _ _ h => h) (Or.inl ⟨by rfl, ?hy12x5⟩) (by assumption) ?rest12x5
      case hy12x5 => intro w hSw; go_simp <;> with_reducible rfl
      simp only [Act.put, List.getElem_toArray, List.getElem_cons_zero, List.getElem_cons_succ, List.setIfInBounds_toArray, List.set_cons_zero, List.set_cons_succ]
      refine wpAnyH_take (i := 6) (v := (.slice aw nw cw)) rfl (by kernel_rfl) (by kernel_rfl) (by kernel_rfl) (fun _ _ _ h => h) (Or.inl ⟨by rfl, ?hy13x6⟩) (by assumption) ?rest13x6
      case hy13x6 => intro w hSw; obtain ⟨s1, s2, s3⟩ := unhide HG _ hSw; go_simp <;> with_reducible rfl
      simp only [Act.put, List.getElem_toArray, List.getElem_cons_zero, List.getElem_cons_succ, List.setIfInBounds_toArray, List.set_cons_zero, List.set_cons_succ]
      refine wpAnyH_take (i := 7) (v := ?v14x7) rfl (by kernel_rfl) (by kernel_rfl) (by kernel_rfl) (fun _ _ _ h => h) (Or.inl ⟨by rfl, ?hy14x7⟩) (by assumption) ?rest14x7
      case hy14x7 => intro w hSw; go_simp <;> with_reducible rfl
      simp only [Act.put, List.getElem_toArray, List.getElem_cons_zero, List.getElem_cons_succ, List.setIfInBounds_toArray, List.set_cons_zero, List.set_cons_succ]
      refine wpAnyH_take (i := 8) (v := ?v15x8) rfl (by kernel_rfl) (by kernel_rfl) (by kernel_rfl) (fun _ _ _ h => h) (Or.inl ⟨by rfl, ?hy15x8⟩) (by assumption) ?rest15x8
      case hy15x8 => intro w hSw; go_simp <;> with_reducible rfl
      simp only [Act.put, List.getElem_toArray, List.getElem_cons_zero, List.getElem_cons_succ, List.setIfInBounds_toArray, List.set_cons_zero, List.set_cons_succ]
      refine wpAnyH_take (i := 9) (v := ?v16x9) rfl (by kernel_rfl) (by kernel_rfl) (by kernel_rfl) (fun _ _ _ h => h) (Or.inl ⟨by rfl, ?hy16x9⟩) (by assumption) ?rest16x9
      case hy16x9 => intro w hSw; go_simp <;> with_reducible rfl
      simp only [Act.put, List.getElem_toArray, List.getElem_cons_zero, List.getElem_cons_succ, List.setIfInBounds_toArray, List.set_cons_zero, List.set_cons_succ]
      refine wpAnyH_take (i := 10) (v := (.agg #[.int .i32 a, .int .i64 b])) rfl (by kernel_rfl) (by kernel_rfl) (by kernel_rfl) (fun _ _ _ h => h) (Or.inl ⟨by rfl, ?hy17x10⟩) (by assumption) ?rest17x10
      case hy17x10 => intro w hSw; obtain ⟨s1, s2, s3⟩ := unhide HG _ hSw; go_simp <;> with_reducible rfl
      simp only [Act.put, List.getElem_toArray, List.getElem_cons_zero, List.getElem_cons_succ, List.setIfInBounds_toArray, List.set_cons_zero, List.set_cons_succ]
      refine wpAnyH_ready (rs := [11]) (by kernel_rfl) (by simp) ?_
      refine AllReadyH.cons rfl (fun K hK => ?_) AllReadyH.nil
      go_simp
      refine (unhide H19).mono ?_
      rintro e w4 ⟨rfl, hb4⟩
      refine hK _ _ ((unhide HBR).trans ((((Below.refl _ _).drew : Below wr.heap.size wr wr.drew).trans hb4).mono (unhide HBR).size)) ?_
      clear hK hHeld
      have hb4' : Below wr.heap.size wr w4 := ((Below.refl _ _).drew : Below wr.heap.size wr wr.drew).trans hb4
      obtain ⟨a5, k5, y5, r5, o5, b5⟩ := lk_app (a := a) (b := b) (d := d) (unhide HOR) hb4' (unhide HBR).size ht42
      have HR5 := hide r5
      have HF := hide (And.intro o5 (And.intro b5 hb4'))
      clear hb4 r5 o5 b5
      intro hHeld
      refine wpAnyH_take (i := 12) (v := ?v18x12) rfl (by kernel_rfl) (by kernel_rfl) (by kernel_rfl) (fun _ _ _ h => h) (Or.inl ⟨by rfl, ?hy18x12⟩) (by assumption) ?rest18x12
      case hy18x12 => intro w hSw; go_simp <;> with_reducible rfl
      simp only [Act.put, List.getElem_toArray, List.getElem_cons_zero, List.getElem_cons_succ, List.setIfInBounds_toArray, List.set_cons_zero, List.set_cons_succ]
      refine wpAnyH_ready (rs := [13]) (by kernel_rfl) (by simp) ?_
      refine AllReadyH.cons rfl (fun K hK => ?_) AllReadyH.nil
      go_simp
      refine hK _ _ ((unhide HBR).trans ((hb4'.mono (unhide HBR).size).alloc (Nat.le_trans (unhide HBR).size hb4'.size) _)) ?_
      clear hK hHeld
      intro hHeld
      refine wpAnyH_ready (rs := [14]) (by kernel_rfl) (by simp) ?_
      refine AllReadyH.cons rfl (fun K hK => ?_) AllReadyH.nil
      rw [if_pos (by rfl)]
      refine append_upon rfl rfl rfl (unhide HR5) ?_
      simp only [Act.put, List.getElem_toArray, List.getElem_cons_zero, List.getElem_cons_succ, List.setIfInBounds_toArray, List.set_cons_zero, List.set_cons_succ]
      refine hK _ _ ((unhide HBR).trans (unhide HF).2.1.1) ?_
      clear hK hHeld
      intro hHeld
      refine wpAnyH_take (i := 15) (v := ?v19x15) rfl (by kernel_rfl) (by kernel_rfl) (by kernel_rfl) (fun _ _ _ h => h) (Or.inl ⟨by rfl, ?hy19x15⟩) (by assumption) ?rest19x15
      case hy19x15 => intro w hSw; go_simp <;> with_reducible rfl
      simp only [Act.put, List.getElem_toArray, List.getElem_cons_zero, List.getElem_cons_succ, List.setIfInBounds_toArray, List.set_cons_zero, List.set_cons_succ]
      refine wpAnyH_done (by kernel_rfl) ?_ _
      go_wp2
      go_roundw
      case rel => exact ⟨t + 1, by omega, by go_num, by rw [unhide HTK]; exact (unhide HF).1, (unhide HBR).trans (unhide HF).2.1.1⟩
      case measure => simp [intOf]; omega
    · obtain rfl : t = kn := by omega
      have hkl := unhide HKN
      rw [List.take_of_length_le (by omega), ← unhide HLK] at hor
      have HF : Hid (wr.ownsRow w.heap.size 39 3 (.slice av t cv) (lkX x).length ((lkX x).flatMap lC) ∧ Below w.heap.size w wr) := by
        refine ⟨?_, (unhide HBW).trans (hbr.mono (unhide HBW).size)⟩
        have := own_mono hor (unhide HBW).size
        rw [hov] at this
        rw [unhide HLK, List.length_map, hkl]
        rw [unhide HLK] at this
        exact this
      subst hov
      clear hkl hor hbr
      go_wp2
      go_ret
      exact ⟨_, rfl, (unhide HF).1, (unhide HF).2⟩
end Go.Proofs.Ytibjhjkeflbghaa
