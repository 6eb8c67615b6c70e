/- Record: the document's lists. -/
import Derived.Test.YtggllgimlfchhaaGreatDH
import Derived.Deep.RegionHeld3
namespace Go.Proofs.YtggllgimlfchhaaGreat
open Go.RowKit
set_option maxRecDepth 100000

set_option maxHeartbeats 1600000 in
theorem lists_any (bv : Value) (zs : List Int) (v : Value) (l : List TmD) (w : World) (hs : Sees w .u8 bv zs) (hS : SeesTms w v l) (hf : ∀ t ∈ l, FitTm t) (hm : ∀ t ∈ l, mayE t.ent = true) (hl : l.length ≤ 4096) (hn : zs.length ≤ 1000000) :
    Calls Tryz.prog 82 #[bv, v] w fun e w' => ∃ v', e = .returned v' ∧ w'.ownsRow w.heap.size 5 1 v' (zs ++ (putL [(l.length : Int)] ++ tmsB l)).length (ints .u8 (zs ++ (putL [(l.length : Int)] ++ tmsB l))) ∧ Below w.heap.size w w' := by
  have HS := hide hS
  have HF := hide hf
  have HM := hide hm
  obtain ⟨ao, cap, _, _, rfl, hcap, _⟩ := hS
  obtain ⟨L, hL⟩ : ∃ n, l.length = n := ⟨_, rfl⟩
  rw [hL] at HS hl hcap
  rw [hL]
  have HLL := hide hL
  have hal : Below w.heap.size w (w.alloc (.cells #[.int .i64 (L : Int)] 2)) := (Below.refl _ _).alloc (Nat.le_refl _) _
  have HN := hide (refn_any bv _ zs [(L : Int)] _ (hs.below hal) (sees_lit w [(L : Int)] (by simp)) (by simp) (i64_of fun x hx => by simp at hx; subst hx; omega) (by have : sizeL [(L : Int)] ≤ 9 := sizeL_le [(L : Int)]; omega))
  simp only [List.length_cons, List.length_nil, Nat.reduceAdd] at HN
  have HAL := hide hal
  obtain ⟨a1, c1, rfl, _⟩ := hs
  clear hal hf hm hL
  go_enter Tryz.func82, Tryz.ntmps82
  go_wp2_with fail
  refine (unhide HN).mono ?_
  rintro e w2 ⟨v2, rfl, h1, h2⟩
  have HR : Hid (w2.ownsRow w.heap.size 5 1 v2 (zs ++ (putL [(L : Int)] ++ tmsB (l.take 0))).length (ints .u8 (zs ++ (putL [(L : Int)] ++ tmsB (l.take 0)))) ∧ Below w.heap.size w w2) := ⟨by simpa [tmsB] using own_mono h1 (by simp), (unhide HAL).trans (h2.mono (by simp))⟩
  clear h1 h2 HN
  go_wp2
  go_loopw [0, 5] (fun b c wr => ∃ t : Nat, t ≤ L ∧ c = .int .i64 t ∧ wr.ownsRow w.heap.size 5 1 b (zs ++ (putL [(L : Int)] ++ tmsB (l.take t))).length (ints .u8 (zs ++ (putL [(L : Int)] ++ tmsB (l.take t)))) ∧ Below w.heap.size w wr) (fun _ c _ => L - (intOf c).toNat)
  case atStart => exact ⟨0, by omega, rfl, (unhide HR).1, (unhide HR).2⟩
  case round =>
    obtain ⟨t, ht, rfl, ho, hb⟩ := hrel
    by_cases hlt : t < L
    · obtain ⟨ao', cap', ga, oa, hv, _, _, hao, hcl⟩ := unhide HS
      simp only [Value.slice.injEq] at hv
      obtain ⟨rfl, hj, rfl⟩ := hv
      obtain rfl := hao (by omega)
      have hlt1 : t < l.length := by omega
      obtain ⟨tv, q0, q1, q2, q3, q4, qs⟩ := hcl t hlt1
      have hmem : l.getD t dM ∈ l := by
        have e : l.getD t dM = l[t] := by simp [List.getD, hlt1]
        rw [e]; exact List.getElem_mem hlt1
      have hft := unhide HF _ hmem
      have hmt := unhide HM _ hmem
      have htk := take_tms l t hlt1
      obtain ⟨d, hd⟩ : ∃ d, l.getD t dM = d := ⟨_, rfl⟩
      rw [hd] at q0 q1 q2 q3 qs hft hmt htk
      have hle := tmB_le hmt
      have hel := entB_le hmt
      have hxl : (zs ++ (putL [(L : Int)] ++ tmsB (l.take t))).length ≤ 200000000 := by
        have l1 := putL_le [(L : Int)]
        have l2 := tmsB_le (l := l.take t) (fun x hx => unhide HM x (List.mem_of_mem_take hx))
        simp only [List.length_append, List.length_cons, List.length_nil, List.length_take] at l1 l2 ⊢
        omega
      have HEF : Hid (∀ x, Below w.heap.size w x → Calls Tryz.prog 38 #[.agg #[.int .i64 d.ent.kind, .int .i64 d.ent.frm, .int .i64 d.ent.num, tv]] x fun r w' => ∃ v, r = .returned v ∧ w'.ownsRow x.heap.size 5 1 v (entB d.ent).length (ints .u8 (entB d.ent)) ∧ Below x.heap.size x w') := fun x hb => entryForm_any _ d.ent x ⟨_, rfl, qs.below hb⟩ hft.ent hmt
      obtain ⟨ta, tc, _, _, rfl, _⟩ := qs
      obtain ⟨a, e1⟩ : ∃ z, d.term = z := ⟨_, rfl⟩
      obtain ⟨k, e2⟩ : ∃ z, d.ent.kind = z := ⟨_, rfl⟩
      obtain ⟨f, e3⟩ : ∃ z, d.ent.frm = z := ⟨_, rfl⟩
      obtain ⟨n, e4⟩ : ∃ z, d.ent.num = z := ⟨_, rfl⟩
      obtain ⟨tl, e5⟩ : ∃ z, d.ent.txns.length = z := ⟨_, rfl⟩
      rw [e2, e3, e4, e5] at HEF
      rw [e1] at q0
      rw [e2] at q1
      rw [e3] at q2
      rw [e4] at q3
      rw [e5] at q4
      have hterm := hft.term
      rw [e1] at hterm
      have hdB : tmB d = putL [a] ++ entB d.ent := by unfold tmB; rw [e1]
      have cc : ∀ o u, w.cell? ⟨ga, o, none⟩ = some u → ∀ x, Below w.heap.size w x → x.cell? ⟨ga, o, none⟩ = some u := fun o u h x hx => (hx.cell (p := ⟨ga, o, none⟩) (World.block_lt_of_cell? w _ h)).trans h
      have HC0 := hide (cc _ _ q0)
      have HC1 : Hid (∀ x, Below w.heap.size w x → x.cell? ⟨ga, oa + t * 5 + 1, none⟩ = some (.int .i64 k) ∧ x.cell? ⟨ga, oa + t * 5 + 2, none⟩ = some (.int .i64 f) ∧ x.cell? ⟨ga, oa + t * 5 + 3, none⟩ = some (.int .i64 n) ∧ x.cell? ⟨ga, oa + t * 5 + 4, none⟩ = some (.slice ta tl tc)) := fun x hx => ⟨cc _ _ q1 x hx, cc _ _ q2 x hx, cc _ _ q3 x hx, cc _ _ q4 x hx⟩
      obtain ⟨aB, cB, rfl⟩ := own_shape ho
      obtain ⟨XS, hXS⟩ : ∃ z, zs ++ (putL [(L : Int)] ++ tmsB (l.take t)) = z := ⟨_, rfl⟩
      rw [hXS] at ho hxl
      rw [hXS]
      obtain ⟨nB, hnB⟩ : ∃ z, XS.length = z := ⟨_, rfl⟩
      rw [hnB]
      have hal2 : Below wr.heap.size wr (wr.alloc (.cells #[.int .i64 a] 2)).drew := ((Below.refl _ _).alloc (Nat.le_refl _) _).drew
      have HB2 : Hid (Below w.heap.size w (wr.alloc (.cells #[.int .i64 a] 2)).drew) := hb.trans (hal2.mono hb.size)
      have HN7 := hide (refn_any _ _ XS [a] _ ((sees_of_own ho).2.below hal2) ((sees_lit wr [a] (by simp)).below (Below.refl _ _).drew) (by simp) (i64_of fun x hx => by simp at hx; subst hx; exact hterm) (by have : sizeL [a] ≤ 9 := sizeL_le [a]; omega))
      simp only [List.length_cons, List.length_nil, Nat.reduceAdd] at HN7
      rw [hnB] at HN7
      have HB := hide hb
      have HXS := hide hXS
      have HXL := hide hxl
      have HEL := hide hel
      have HTK : Hid (tmsB (l.take (t + 1)) = tmsB (l.take t) ++ (putL [a] ++ entB d.ent)) := htk.trans (by rw [hdB])
      clear hcl hao hj hmem hft hmt htk hle hel hxl ho hb hXS hal2 q0 q1 q2 q3 q4 e1 e2 e3 e4 e5 hterm hdB cc hd hnB
      go_wp2_with fail
      refine wp_region_held_drew (S := fun x => Below w.heap.size w x) (by kernel_rfl) (unhide HB).drew (fun hHeld => ?_)
      refine wpAnyH_take (i := 0) (v := ?v1x0) rfl (by kernel_rfl) (by kernel_rfl) (by kernel_rfl) (fun _ _ _ h => h) (Or.inl ⟨by rfl, ?hy1x0⟩) (by assumption) ?rest1x0
      case hy1x0 => intro w hSw; go_simp <;> with_reducible rfl
      simp only [Act.put, List.getElem_toArray, List.getElem_cons_zero, List.setIfInBounds_toArray, List.set_cons_zero, List.set_cons_succ]
      refine wpAnyH_take (i := 1) (v := ?v2x1) rfl (by kernel_rfl) (by kernel_rfl) (by kernel_rfl) (fun _ _ _ h => h) (Or.inl ⟨by rfl, ?hy2x1⟩) (by assumption) ?rest2x1
      case hy2x1 => intro w hSw; go_simp <;> with_reducible rfl
      simp only [Act.put, List.getElem_toArray, List.getElem_cons_zero, List.getElem_cons_succ, List.setIfInBounds_toArray, List.set_cons_zero, List.set_cons_succ]
      refine wpAnyH_take (i := 2) (v := ?v3x2) rfl (by kernel_rfl) (by kernel_rfl) (by kernel_rfl) (fun _ _ _ h => h) (Or.inl ⟨by rfl, ?hy3x2⟩) (by assumption) ?rest3x2
      case hy3x2 => intro w hSw; go_simp <;> with_reducible rfl
      simp only [Act.put, List.getElem_toArray, List.getElem_cons_zero, List.getElem_cons_succ, List.setIfInBounds_toArray, List.set_cons_zero, List.set_cons_succ]
      refine wpAnyH_take (i := 3) (v := ?v4x3) rfl (by kernel_rfl) (by kernel_rfl) (by kernel_rfl) (fun _ _ _ h => h) (Or.inl ⟨by rfl, ?hy4x3⟩) (by assumption) ?rest4x3
      case hy4x3 => intro w hSw; go_simp <;> with_reducible rfl
      simp only [Act.put, List.getElem_toArray, List.getElem_cons_zero, List.getElem_cons_succ, List.setIfInBounds_toArray, List.set_cons_zero, List.set_cons_succ]
      refine wpAnyH_take (i := 4) (v := ?v5x4) rfl (by kernel_rfl) (by kernel_rfl) (by kernel_rfl) (fun _ _ _ h => h) (Or.inl ⟨by rfl, ?hy5x4⟩) (by assumption) ?rest5x4
      case hy5x4 => intro w hSw; go_simp <;> with_reducible rfl
      simp only [Act.put, List.getElem_toArray, List.getElem_cons_zero, List.getElem_cons_succ, List.setIfInBounds_toArray, List.set_cons_zero, List.set_cons_succ]
      refine wpAnyH_take (i := 5) (v := (.int .i64 a)) rfl (by kernel_rfl) (by kernel_rfl) (by kernel_rfl) (fun _ _ _ h => h) (Or.inl ⟨by rfl, ?hy6x5⟩) (by assumption) ?rest6x5
      case hy6x5 => intro w hSw; have g0 := unhide HC0 _ hSw; go_simp <;> with_reducible rfl
      simp only [Act.put, List.getElem_toArray, List.getElem_cons_zero, List.getElem_cons_succ, List.setIfInBounds_toArray, List.set_cons_zero, List.set_cons_succ]
      refine wpAnyH_take (i := 8) (v := ?v7x8) rfl (by kernel_rfl) (by kernel_rfl) (by kernel_rfl) (fun _ _ _ h => h) (Or.inl ⟨by rfl, ?hy7x8⟩) (by assumption) ?rest7x8
      case hy7x8 => intro w hSw; go_simp <;> with_reducible rfl
      simp only [Act.put, List.getElem_toArray, List.getElem_cons_zero, List.getElem_cons_succ, List.setIfInBounds_toArray, List.set_cons_zero, List.set_cons_succ]
      refine wpAnyH_take (i := 9) (v := ?v8x9) rfl (by kernel_rfl) (by kernel_rfl) (by kernel_rfl) (fun _ _ _ h => h) (Or.inl ⟨by rfl, ?hy8x9⟩) (by assumption) ?rest8x9
      case hy8x9 => intro w hSw; go_simp <;> with_reducible rfl
      simp only [Act.put, List.getElem_toArray, List.getElem_cons_zero, List.getElem_cons_succ, List.setIfInBounds_toArray, List.set_cons_zero, List.set_cons_succ]
      refine wpAnyH_take (i := 10) (v := ?v9x10) rfl (by kernel_rfl) (by kernel_rfl) (by kernel_rfl) (fun _ _ _ h => h) (Or.inl ⟨by rfl, ?hy9x10⟩) (by assumption) ?rest9x10
      case hy9x10 => intro w hSw; go_simp <;> with_reducible rfl
      simp only [Act.put, List.getElem_toArray, List.getElem_cons_zero, List.getElem_cons_succ, List.setIfInBounds_toArray, List.set_cons_zero, List.set_cons_succ]
      refine wpAnyH_take (i := 11) (v := ?v10x11) rfl (by kernel_rfl) (by kernel_rfl) (by kernel_rfl) (fun _ _ _ h => h) (Or.inl ⟨by rfl, ?hy10x11⟩) (by assumption) ?rest10x11
      case hy10x11 => intro w hSw; go_simp <;> with_reducible rfl
      simp only [Act.put, List.getElem_toArray, List.getElem_cons_zero, List.getElem_cons_succ, List.setIfInBounds_toArray, List.set_cons_zero, List.set_cons_succ]
      refine wpAnyH_take (i := 12) (v := (.agg #[.int .i64 k, .int .i64 f, .int .i64 n, .slice ta tl tc])) rfl (by kernel_rfl) (by kernel_rfl) (by kernel_rfl) (fun _ _ _ h => h) (Or.inl ⟨by rfl, ?hy11x12⟩) (by assumption) ?rest11x12
      case hy11x12 => intro w hSw; obtain ⟨g0, g1, g2, g3⟩ := unhide HC1 _ hSw; go_simp <;> with_reducible rfl
      simp only [Act.put, List.getElem_toArray, List.getElem_cons_zero, List.getElem_cons_succ, List.setIfInBounds_toArray, List.set_cons_zero, List.set_cons_succ]
      refine wpAnyH_ready (rs := [6]) (by kernel_rfl) (by simp) ?_
      refine AllReadyH.cons rfl (fun K hK => ?_) AllReadyH.nil
      go_simp
      refine hK _ _ (unhide HB2) ?_
      clear hK hHeld
      intro hHeld
      refine wpAnyH_ready (rs := [7]) (by kernel_rfl) (by simp) ?_
      refine AllReadyH.cons rfl (fun K hK => ?_) AllReadyH.nil
      go_simp
      refine (unhide HN7).mono ?_
      rintro e y2 ⟨v3, rfl, o2, r2⟩
      refine hK _ _ ((unhide HB2).trans (r2.mono (unhide HB2).size)) ?_
      clear hK hHeld
      have HB3 : Hid (Below w.heap.size w y2) := (unhide HB2).trans (r2.mono (unhide HB2).size)
      have HO2 : Hid (y2.ownsRow w.heap.size 5 1 v3 (XS ++ putL [a]).length (ints .u8 (XS ++ putL [a]))) := own_mono o2 (unhide HB2).size
      obtain ⟨a2, c2, rfl⟩ := own_shape o2
      obtain ⟨n2, hn2⟩ : ∃ z, (XS ++ putL [a]).length = z := ⟨_, rfl⟩
      rw [hn2]
      have HN2 := hide hn2
      clear o2 r2 HN7 hn2
      have HE7 := hide (unhide HEF y2 (unhide HB3))
      intro hHeld
      refine wpAnyH_ready (rs := [13]) (by kernel_rfl) (by simp) ?_
      refine AllReadyH.cons rfl (fun K hK => ?_) AllReadyH.nil
      go_simp
      refine (unhide HE7).mono ?_
      rintro e y3 ⟨v4, rfl, o3, r3⟩
      refine hK _ _ ((unhide HB3).trans (r3.mono (unhide HB3).size)) ?_
      clear hK hHeld
      have HB4 : Hid (Below w.heap.size w y3) := (unhide HB3).trans (r3.mono (unhide HB3).size)
      have ho4 := own_below (unhide HO2) r3
      obtain ⟨v6, w6, hr6, ho6, hg6⟩ := run_append_sees w.heap.size _ (XS ++ putL [a]) ho4 v4 (entB d.ent) (sees_of_own o3).2 (by have l1 := putL_le [a]; have := unhide HXL; have := unhide HEL; simp only [List.length_append, List.length_cons, List.length_nil] at l1 ⊢; omega) (unhide HB4).size 23
      have HB6 : Hid (Below w.heap.size w w6) := (unhide HB4).grown hg6 (unhide HB4).size (own_block_le ho4)
      have HR6 := hide ho6
      obtain ⟨a3, c3, rfl⟩ := own_shape o3
      obtain ⟨n3, hn3⟩ : ∃ z, (entB d.ent).length = z := ⟨_, rfl⟩
      rw [hn3]
      rw [hn3, unhide HN2] at hr6
      clear hn3
      clear ho4 ho6 hg6 o3 r3 HE7 HO2
      intro hHeld
      refine wpAnyH_ready (rs := [14]) (by kernel_rfl) (by simp) ?_
      refine AllReadyH.cons rfl (fun K hK => ?_) AllReadyH.nil
      rw [if_pos (by rfl)]
      refine append_upon rfl rfl rfl hr6 ?_
      simp only [Act.put, List.getElem_toArray, List.getElem_cons_zero, List.getElem_cons_succ, List.setIfInBounds_toArray, List.set_cons_zero, List.set_cons_succ]
      refine hK _ _ (unhide HB6) ?_
      clear hK hHeld
      intro hHeld
      refine wpAnyH_take (i := 15) (v := ?v12x15) rfl (by kernel_rfl) (by kernel_rfl) (by kernel_rfl) (fun _ _ _ h => h) (Or.inl ⟨by rfl, ?hy12x15⟩) (by assumption) ?rest12x15
      case hy12x15 => intro w hSw; go_simp <;> with_reducible rfl
      simp only [Act.put, List.getElem_toArray, List.getElem_cons_zero, List.getElem_cons_succ, List.setIfInBounds_toArray, List.set_cons_zero]
      refine wpAnyH_done (by kernel_rfl) ?_ _
      have HRT : Hid (w6.ownsRow w.heap.size 5 1 v6 (zs ++ (putL [(L : Int)] ++ tmsB (l.take (t + 1)))).length (ints .u8 (zs ++ (putL [(L : Int)] ++ tmsB (l.take (t + 1))))) ∧ Below w.heap.size w w6) := by
        show _ ∧ _
        have h6 := unhide HR6
        rw [← unhide HXS] at h6
        rw [unhide HTK]
        simp only [List.append_assoc] at h6 ⊢
        exact ⟨h6, unhide HB6⟩
      clear hHeld hr6 HR6
      go_wp2
      go_roundw
      case rel => exact ⟨t + 1, by omega, by go_num, (unhide HRT).1, (unhide HRT).2⟩
      case measure => simp [intOf]; omega
    · obtain rfl : t = L := by omega
      rw [List.take_of_length_le (by have := unhide HLL; omega)] at ho
      have HE := hide (And.intro ho hb)
      clear ho hb
      go_wp2
      go_ret
      exact ⟨_, rfl, unhide HE⟩
end Go.Proofs.YtggllgimlfchhaaGreat
