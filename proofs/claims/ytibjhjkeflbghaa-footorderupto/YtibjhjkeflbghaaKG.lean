/- Several texts as one. -/
import Derived.Test.YtibjhjkeflbghaaN2

/- Footprints held against each other; which keys may be read, which written. -/
namespace Go.Proofs.Ytibjhjkeflbghaa
open Go.RowKit
set_option maxRecDepth 100000

/-- A footprint in pure terms. -/
structure Fp where
  rd : Nat → List Ky
  wt : Nat → List Ky
  ps : List Int
  ts : List Int
/-- A footprint's value, and what it shows. -/
structure SeesF (w : World) (V : Array Value) (A : Fp) : Prop where
  ex : ∃ a L c a' L' c' pv tv, V = ftC a L c a' L' c' pv tv ∧ (∀ p, p < 8 → SeesL kC 2 w (.slice (a p) (L p) (c p)) (A.rd p)) ∧ (∀ p, p < 8 → SeesL kC 2 w (.slice (a' p) (L' p) (c' p)) (A.wt p)) ∧ SeesL nC 1 w pv A.ps ∧ SeesL nC 1 w tv A.ts
theorem SeesF.below {w z : World} {V : Array Value} {A : Fp} (h : SeesF w V A) (hb : Below w.heap.size w z) : SeesF z V A := by
  obtain ⟨a, L, c, a', L', c', pv, tv, e, h1, h2, h3, h4⟩ := h.ex
  exact ⟨a, L, c, a', L', c', pv, tv, e, fun p hp => (h1 p hp).below kC_len hb, fun p hp => (h2 p hp).below kC_len hb, h3.below nC_len hb, h4.below nC_len hb⟩
def sameA (A B : Fp) : Nat → Bool
  | 0 => true
  | n + 1 => sameA A B n && (decide (A.rd n = B.rd n) && decide (A.wt n = B.wt n))
def sameF (A B : Fp) : Bool := sameA A B 8 && (decide (A.ps = B.ps) && decide (A.ts = B.ts))
theorem sameA_refl (A : Fp) : ∀ n, sameA A A n = true
  | 0 => rfl
  | n + 1 => by simp [sameA, sameA_refl A n]
theorem sameF_refl (A : Fp) : sameF A A = true := by simp [sameF, sameA_refl]
theorem sameA_mono {A B : Fp} : ∀ {n m : Nat}, n ≤ m → sameA A B n = false → sameA A B m = false
  | n, m, h, h1 => by
    induction m with
    | zero =>
      obtain rfl : n = 0 := by omega
      exact h1
    | succ m ih =>
      by_cases e : n = m + 1
      · rw [← e]; exact h1
      · simp [sameA, ih (by omega)]
/-- The cells of a footprint in a box. -/
theorem ft_cells {z : World} {b : Nat} {a : Nat → Option Addr} {L c : Nat → Nat} {a' : Nat → Option Addr} {L' c' : Nat → Nat} {pv tv : Value} (h : z.heap[b]? = some (.cells (ftC a L c a' L' c' pv tv) 32)) {p : Nat} (hp : p < 8) : z.cell? ⟨b, p, none⟩ = some (.slice (a p) (L p) (c p)) ∧ z.cell? ⟨b, 8 + p, none⟩ = some (.slice (a' p) (L' p) (c' p)) := by
  have h0 := ft_range0 h p _ (litR_at a L c hp)
  have h1 := ft_range8 h p _ (litR_at a' L' c' hp)
  rw [Nat.zero_add] at h0
  exact ⟨h0, h1⟩
theorem samekeys_b {av bv : Value} {l m : List Ky} {w : World} (ha : SeesL kC 2 w av l) (hb : SeesL kC 2 w bv m) : Calls Try.prog 34 #[av, bv] w fun e w' => e = .returned (.bool (decide (l = m))) ∧ Below w.heap.size w w' :=
  (samekeys_any ha hb).mono fun _ _ ⟨h1, h2⟩ => ⟨h1, h2.below⟩

set_option maxHeartbeats 6400000 in
theorem same_any {w : World} {U V : Array Value} {A B : Fp} (hu : SeesF w U A) (hv : SeesF w V B) :
    Calls Try.prog 21 #[.agg U, .agg V] w fun e w' => e = .returned (.bool (sameF A B)) ∧ Below w.heap.size w w' := by
  have HU0 : Hid (∀ z, Below w.heap.size w z → SeesF z U A) := fun z hz => hu.below hz
  have HV0 : Hid (∀ z, Below w.heap.size w z → SeesF z V B) := fun z hz => hv.below hz
  obtain ⟨a, L, c, a', L', c', pv, tv, eU, _, _, hps, hts⟩ := hu.ex
  obtain ⟨b, M, d, b', M', d', qv, sv, eV, _, _, hqs, hss⟩ := hv.ex
  obtain ⟨ap, cp, ep⟩ := hps.shape
  obtain ⟨at', ct, et⟩ := hts.shape
  obtain ⟨aq, cq, eq'⟩ := hqs.shape
  obtain ⟨as', cs', es⟩ := hss.shape
  obtain ⟨np, hnp⟩ : ∃ n, A.ps.length = n := ⟨_, rfl⟩
  obtain ⟨nt, hnt⟩ : ∃ n, A.ts.length = n := ⟨_, rfl⟩
  obtain ⟨nq, hnq⟩ : ∃ n, B.ps.length = n := ⟨_, rfl⟩
  obtain ⟨ns, hns⟩ : ∃ n, B.ts.length = n := ⟨_, rfl⟩
  rw [hnp] at ep
  rw [hnt] at et
  rw [hnq] at eq'
  rw [hns] at es
  subst ep et eq' es
  obtain ⟨Y0, hY0⟩ : ∃ y, w.alloc (.cells U 32) = y := ⟨_, rfl⟩
  obtain ⟨Y, hY⟩ : ∃ y, Y0.alloc (.cells V 32) = y := ⟨_, rfl⟩
  have b0 : Below w.heap.size w Y0 := hY0 ▸ below_box _
  have z0 : Y0.heap.size = w.heap.size + 1 := by rw [← hY0]; simp
  have bY : Below w.heap.size w Y := hY ▸ b0.alloc b0.size _
  have xY : Y.heap[w.heap.size]? = some (.cells U 32) := by rw [← hY]; exact (Below.heap_alloc Y0 _ _ (by omega)).trans (hY0 ▸ heap_alloc_new w _)
  have uY : Y.heap[Y0.heap.size]? = some (.cells V 32) := by rw [← hY]; exact heap_alloc_new Y0 _
  have HC : Hid (∀ z, Below Y.heap.size Y z → (∀ p, p < 8 → (z.cell? ⟨w.heap.size, p, none⟩ = some (.slice (a p) (L p) (c p)) ∧ z.cell? ⟨w.heap.size, 8 + p, none⟩ = some (.slice (a' p) (L' p) (c' p))) ∧ z.cell? ⟨Y0.heap.size, p, none⟩ = some (.slice (b p) (M p) (d p)) ∧ z.cell? ⟨Y0.heap.size, 8 + p, none⟩ = some (.slice (b' p) (M' p) (d' p))) ∧ z.cell? ⟨w.heap.size, 16, none⟩ = some (.slice ap np cp) ∧ z.cell? ⟨w.heap.size, 17, none⟩ = some (.slice at' nt ct) ∧ z.cell? ⟨Y0.heap.size, 16, none⟩ = some (.slice aq nq cq) ∧ z.cell? ⟨Y0.heap.size, 17, none⟩ = some (.slice as' ns cs')) := fun z hz => by
    have h1 := (hz.block _ (Array.getElem?_eq_some_iff.1 xY).1).trans xY
    have h2 := (hz.block _ (Array.getElem?_eq_some_iff.1 uY).1).trans uY
    rw [eU] at h1
    rw [eV] at h2
    exact ⟨fun p hp => ⟨ft_cells h1 hp, ft_cells h2 hp⟩, cell_at h1, cell_at h1, cell_at h2, cell_at h2⟩
  have HBY := hide bY
  have HS : Hid (∀ z, Below Y.heap.size Y z → (∀ p, p < 8 → (SeesL kC 2 z (.slice (a p) (L p) (c p)) (A.rd p) ∧ SeesL kC 2 z (.slice (a' p) (L' p) (c' p)) (A.wt p)) ∧ SeesL kC 2 z (.slice (b p) (M p) (d p)) (B.rd p) ∧ SeesL kC 2 z (.slice (b' p) (M' p) (d' p)) (B.wt p)) ∧ SeesL nC 1 z (.slice ap np cp) A.ps ∧ SeesL nC 1 z (.slice at' nt ct) A.ts ∧ SeesL nC 1 z (.slice aq nq cq) B.ps ∧ SeesL nC 1 z (.slice as' ns cs') B.ts) := fun z hz => by
    have hwz := bY.trans (hz.mono bY.size)
    rename_i hu1 hu2 hv1 hv2
    exact ⟨fun p hp => ⟨⟨(hu1 p hp).below kC_len hwz, (hu2 p hp).below kC_len hwz⟩, (hv1 p hp).below kC_len hwz, (hv2 p hp).below kC_len hwz⟩, hps.below nC_len hwz, hts.below nC_len hwz, hqs.below nC_len hwz, hss.below nC_len hwz⟩
  have HY0 := hide hY0
  have HY := hide hY
  obtain ⟨R, hR⟩ : ∃ r, sameF A B = r := ⟨_, rfl⟩
  rw [hR]
  have HRR := hide hR
  clear hR hu hv hps hts hqs hss b0 z0 bY xY uY hY0 hY hnp hnt hnq hns eU eV HU0 HV0
  rename_i hu1 hu2 hv1 hv2
  clear hu1 hu2 hv1 hv2
  go_enter Try.func21, Try.ntmps21
  go_wp2_with (first | rw [unhide HY0] | rw [unhide HY])
  go_loopw [6] (fun c wr => ∃ p : Nat, p ≤ 8 ∧ c = .int .i64 p ∧ sameA A B p = true ∧ Below Y.heap.size Y wr) (fun c _ => 8 - (intOf c).toNat)
  case atStart => exact ⟨0, by omega, rfl, rfl, Below.refl _ _⟩
  case round =>
    obtain ⟨p, hp, rfl, hsa, hbr⟩ := hrel
    have HSA := hide hsa
    have HBR := hide hbr
    clear hsa hbr
    by_cases hlp : p < 8
    · obtain ⟨q1, hq1⟩ : ∃ q, decide (A.rd p = B.rd p) = q := ⟨_, rfl⟩
      obtain ⟨q2, hq2⟩ : ∃ q, decide (A.wt p = B.wt p) = q := ⟨_, rfl⟩
      have HQ := hide (And.intro hq1 hq2)
      have H1 : Hid (∀ z, Below Y.heap.size Y z → Calls Try.prog 33 #[.slice (a p) (L p) (c p), .slice (b p) (M p) (d p)] z fun e w' => e = .returned (.bool q1) ∧ Below z.heap.size z w') := fun z hz => hq1 ▸ keysEq_any (((unhide HS) z hz).1 p hlp).1.1 (((unhide HS) z hz).1 p hlp).2.1
      have H2 : Hid (∀ z, Below Y.heap.size Y z → Calls Try.prog 33 #[.slice (a' p) (L' p) (c' p), .slice (b' p) (M' p) (d' p)] z fun e w' => e = .returned (.bool q2) ∧ Below z.heap.size z w') := fun z hz => hq2 ▸ keysEq_any (((unhide HS) z hz).1 p hlp).1.2 (((unhide HS) z hz).1 p hlp).2.2
      obtain ⟨sa, na, ca, hsa⟩ : ∃ x y z, (a p, L p, c p) = (x, y, z) := ⟨_, _, _, rfl⟩
      clear hq1 hq2
      cases q1 with
      | false =>
        go_wp2
        refine wp_region_held_drew (S := fun x => Below Y.heap.size Y x) (by kernel_rfl) ((unhide HBR).drew) (fun hHeld => ?_)
        refine wpAnyH_take (i := 0) (v := ?v1x0) rfl (by kernel_rfl) (by kernel_rfl) (by kernel_rfl) (fun _ _ _ h => h) (Or.inl ⟨by rfl, ?hy1x0⟩) (by assumption) ?rest1x0
        case hy1x0 => intro w hSw; go_simp <;> with_reducible rfl
        simp only [Act.put, List.getElem_toArray, List.getElem_cons_zero, List.setIfInBounds_toArray, List.set_cons_zero, List.set_cons_succ]
        refine wpAnyH_take (i := 1) (v := ?v2x1) rfl (by kernel_rfl) (by kernel_rfl) (by kernel_rfl) (fun _ _ _ h => h) (Or.inl ⟨by rfl, ?hy2x1⟩) (by assumption) ?rest2x1
        case hy2x1 => intro w hSw; go_simp <;> with_reducible rfl
        simp only [Act.put, List.getElem_toArray, List.getElem_cons_zero, List.getElem_cons_succ, List.setIfInBounds_toArray, List.set_cons_zero, List.set_cons_succ]
        refine wpAnyH_take (i := 2) (v := ?v3x2) rfl (by kernel_rfl) (by kernel_rfl) (by kernel_rfl) (fun _ _ _ h => h) (Or.inl ⟨by rfl, ?hy3x2⟩) (by assumption) ?rest3x2
        case hy3x2 => intro w hSw; go_simp <;> with_reducible rfl
        simp only [Act.put, List.getElem_toArray, List.getElem_cons_zero, List.getElem_cons_succ, List.setIfInBounds_toArray, List.set_cons_zero, List.set_cons_succ]
        refine wpAnyH_take (i := 3) (v := (.slice (a p) (L p) (c p))) rfl (by kernel_rfl) (by kernel_rfl) (by kernel_rfl) (fun _ _ _ h => h) (Or.inl ⟨by rfl, ?hy4x3⟩) (by assumption) ?rest4x3
        case hy4x3 => intro w hSw; have s1 := (((unhide HC) _ hSw).1 p hlp).1.1; go_simp <;> with_reducible rfl
        simp only [Act.put, List.getElem_toArray, List.getElem_cons_zero, List.getElem_cons_succ, List.setIfInBounds_toArray, List.set_cons_zero, List.set_cons_succ]
        refine wpAnyH_take (i := 4) (v := ?v5x4) rfl (by kernel_rfl) (by kernel_rfl) (by kernel_rfl) (fun _ _ _ h => h) (Or.inl ⟨by rfl, ?hy5x4⟩) (by assumption) ?rest5x4
        case hy5x4 => intro w hSw; go_simp <;> with_reducible rfl
        simp only [Act.put, List.getElem_toArray, List.getElem_cons_zero, List.getElem_cons_succ, List.setIfInBounds_toArray, List.set_cons_zero, List.set_cons_succ]
        refine wpAnyH_take (i := 5) (v := ?v6x5) rfl (by kernel_rfl) (by kernel_rfl) (by kernel_rfl) (fun _ _ _ h => h) (Or.inl ⟨by rfl, ?hy6x5⟩) (by assumption) ?rest6x5
        case hy6x5 => intro w hSw; go_simp <;> with_reducible rfl
        simp only [Act.put, List.getElem_toArray, List.getElem_cons_zero, List.getElem_cons_succ, List.setIfInBounds_toArray, List.set_cons_zero, List.set_cons_succ]
        refine wpAnyH_take (i := 6) (v := ?v7x6) rfl (by kernel_rfl) (by kernel_rfl) (by kernel_rfl) (fun _ _ _ h => h) (Or.inl ⟨by rfl, ?hy7x6⟩) (by assumption) ?rest7x6
        case hy7x6 => intro w hSw; go_simp <;> with_reducible rfl
        simp only [Act.put, List.getElem_toArray, List.getElem_cons_zero, List.getElem_cons_succ, List.setIfInBounds_toArray, List.set_cons_zero, List.set_cons_succ]
        refine wpAnyH_take (i := 7) (v := (.slice (b p) (M p) (d p))) rfl (by kernel_rfl) (by kernel_rfl) (by kernel_rfl) (fun _ _ _ h => h) (Or.inl ⟨by rfl, ?hy8x7⟩) (by assumption) ?rest8x7
        case hy8x7 => intro w hSw; have s1 := (((unhide HC) _ hSw).1 p hlp).2.1; go_simp <;> with_reducible rfl
        simp only [Act.put, List.getElem_toArray, List.getElem_cons_zero, List.getElem_cons_succ, List.setIfInBounds_toArray, List.set_cons_zero, List.set_cons_succ]
        refine wpAnyH_ready (rs := [8]) (by kernel_rfl) (by simp) ?_
        refine AllReadyH.cons rfl (fun K hK => ?_) AllReadyH.nil
        go_simp
        refine (unhide H1 _ ((unhide HBR).drew)).mono ?_
        rintro e w1 ⟨rfl, hb1⟩
        refine hK _ _ ((unhide HBR).drew.trans (hb1.mono (unhide HBR).drew.size)) ?_
        clear hK hHeld
        have HB1 : Hid (Below Y.heap.size Y w1) := ((unhide HBR).drew.trans (hb1.mono (unhide HBR).drew.size))
        clear hb1
        intro hHeld
        refine wpAnyH_take (i := 9) (v := ?v9x9) rfl (by kernel_rfl) (by kernel_rfl) (by kernel_rfl) (fun _ _ _ h => h) (Or.inl ⟨by rfl, ?hy9x9⟩) (by assumption) ?rest9x9
        case hy9x9 => intro w hSw; go_simp <;> with_reducible rfl
        simp only [Act.put, List.getElem_toArray, List.getElem_cons_zero, List.getElem_cons_succ, List.setIfInBounds_toArray, List.set_cons_zero, List.set_cons_succ]
        refine wpAnyH_take (i := 10) (v := ?v10x10) rfl (by kernel_rfl) (by kernel_rfl) (by kernel_rfl) (fun _ _ _ h => h) (Or.inl ⟨by rfl, ?hy10x10⟩) (by assumption) ?rest10x10
        case hy10x10 => intro w hSw; go_simp <;> with_reducible rfl
        simp only [Act.put, List.getElem_toArray, List.getElem_cons_zero, List.getElem_cons_succ, List.setIfInBounds_toArray, List.set_cons_zero, List.set_cons_succ]
        refine wpAnyH_take (i := 11) (v := undef) rfl (by kernel_rfl) (by kernel_rfl) (by kernel_rfl) (fun _ _ _ h => h) (Or.inr ⟨by rfl, rfl⟩) (by assumption) ?_
        simp only [Act.put, List.getElem_toArray, List.getElem_cons_zero, List.getElem_cons_succ, List.setIfInBounds_toArray, List.set_cons_zero, List.set_cons_succ]
        refine wpAnyH_take (i := 12) (v := undef) rfl (by kernel_rfl) (by kernel_rfl) (by kernel_rfl) (fun _ _ _ h => h) (Or.inr ⟨by rfl, rfl⟩) (by assumption) ?_
        simp only [Act.put, List.getElem_toArray, List.getElem_cons_zero, List.getElem_cons_succ, List.setIfInBounds_toArray, List.set_cons_zero, List.set_cons_succ]
        refine wpAnyH_take (i := 13) (v := undef) rfl (by kernel_rfl) (by kernel_rfl) (by kernel_rfl) (fun _ _ _ h => h) (Or.inr ⟨by rfl, rfl⟩) (by assumption) ?_
        simp only [Act.put, List.getElem_toArray, List.getElem_cons_zero, List.getElem_cons_succ, List.setIfInBounds_toArray, List.set_cons_zero, List.set_cons_succ]
        refine wpAnyH_take (i := 14) (v := undef) rfl (by kernel_rfl) (by kernel_rfl) (by kernel_rfl) (fun _ _ _ h => h) (Or.inr ⟨by rfl, rfl⟩) (by assumption) ?_
        simp only [Act.put, List.getElem_toArray, List.getElem_cons_zero, List.getElem_cons_succ, List.setIfInBounds_toArray, List.set_cons_zero, List.set_cons_succ]
        refine wpAnyH_take (i := 15) (v := undef) rfl (by kernel_rfl) (by kernel_rfl) (by kernel_rfl) (fun _ _ _ h => h) (Or.inr ⟨by rfl, rfl⟩) (by assumption) ?_
        simp only [Act.put, List.getElem_toArray, List.getElem_cons_zero, List.getElem_cons_succ, List.setIfInBounds_toArray, List.set_cons_zero, List.set_cons_succ]
        refine wpAnyH_take (i := 16) (v := undef) rfl (by kernel_rfl) (by kernel_rfl) (by kernel_rfl) (fun _ _ _ h => h) (Or.inr ⟨by rfl, rfl⟩) (by assumption) ?_
        simp only [Act.put, List.getElem_toArray, List.getElem_cons_zero, List.getElem_cons_succ, List.setIfInBounds_toArray, List.set_cons_zero, List.set_cons_succ]
        refine wpAnyH_take (i := 17) (v := undef) rfl (by kernel_rfl) (by kernel_rfl) (by kernel_rfl) (fun _ _ _ h => h) (Or.inr ⟨by rfl, rfl⟩) (by assumption) ?_
        simp only [Act.put, List.getElem_toArray, List.getElem_cons_zero, List.getElem_cons_succ, List.setIfInBounds_toArray, List.set_cons_zero, List.set_cons_succ]
        refine wpAnyH_take (i := 18) (v := undef) rfl (by kernel_rfl) (by kernel_rfl) (by kernel_rfl) (fun _ _ _ h => h) (Or.inr ⟨by rfl, rfl⟩) (by assumption) ?_
        simp only [Act.put, List.getElem_toArray, List.getElem_cons_zero, List.getElem_cons_succ, List.setIfInBounds_toArray, List.set_cons_zero, List.set_cons_succ]
        refine wpAnyH_take (i := 19) (v := undef) rfl (by kernel_rfl) (by kernel_rfl) (by kernel_rfl) (fun _ _ _ h => h) (Or.inr ⟨by rfl, rfl⟩) (by assumption) ?_
        simp only [Act.put, List.getElem_toArray, List.getElem_cons_zero, List.getElem_cons_succ, List.setIfInBounds_toArray, List.set_cons_zero, List.set_cons_succ]
        refine wpAnyH_take (i := 20) (v := undef) rfl (by kernel_rfl) (by kernel_rfl) (by kernel_rfl) (fun _ _ _ h => h) (Or.inr ⟨by rfl, rfl⟩) (by assumption) ?_
        simp only [Act.put, List.getElem_toArray, List.getElem_cons_zero, List.getElem_cons_succ, List.setIfInBounds_toArray, List.set_cons_zero, List.set_cons_succ]
        refine wpAnyH_take (i := 21) (v := ?v21x21) rfl (by kernel_rfl) (by kernel_rfl) (by kernel_rfl) (fun _ _ _ h => h) (Or.inl ⟨by rfl, ?hy21x21⟩) (by assumption) ?rest21x21
        case hy21x21 => intro w hSw; go_simp <;> with_reducible rfl
        simp only [Act.put, List.getElem_toArray, List.getElem_cons_zero, List.getElem_cons_succ, List.setIfInBounds_toArray, List.set_cons_zero, List.set_cons_succ]
        refine wpAnyH_done (by kernel_rfl) ?_ _
        go_wp2
        go_ret
        refine ⟨retBool ?_, (unhide HBY).trans ((unhide HB1).mono (unhide HBY).size)⟩
        rw [← unhide HRR]
        have h := sameA_mono (show p + 1 ≤ 8 by omega) (show sameA A B (p + 1) = false by simp [sameA, (unhide HQ).1])
        simp [sameF, h]
      | true =>
        cases q2 with
        | false =>
          go_wp2
          refine wp_region_held_drew (S := fun x => Below Y.heap.size Y x) (by kernel_rfl) ((unhide HBR).drew) (fun hHeld => ?_)
          refine wpAnyH_take (i := 0) (v := ?v22x0) rfl (by kernel_rfl) (by kernel_rfl) (by kernel_rfl) (fun _ _ _ h => h) (Or.inl ⟨by rfl, ?hy22x0⟩) (by assumption) ?rest22x0
          case hy22x0 => intro w hSw; go_simp <;> with_reducible rfl
          simp only [Act.put, List.getElem_toArray, List.getElem_cons_zero, List.setIfInBounds_toArray, List.set_cons_zero, List.set_cons_succ]
          refine wpAnyH_take (i := 1) (v := ?v23x1) rfl (by kernel_rfl) (by kernel_rfl) (by kernel_rfl) (fun _ _ _ h => h) (Or.inl ⟨by rfl, ?hy23x1⟩) (by assumption) ?rest23x1
          case hy23x1 => intro w hSw; go_simp <;> with_reducible rfl
          simp only [Act.put, List.getElem_toArray, List.getElem_cons_zero, List.getElem_cons_succ, List.setIfInBounds_toArray, List.set_cons_zero, List.set_cons_succ]
          refine wpAnyH_take (i := 2) (v := ?v24x2) rfl (by kernel_rfl) (by kernel_rfl) (by kernel_rfl) (fun _ _ _ h => h) (Or.inl ⟨by rfl, ?hy24x2⟩) (by assumption) ?rest24x2
          case hy24x2 => intro w hSw; go_simp <;> with_reducible rfl
          simp only [Act.put, List.getElem_toArray, List.getElem_cons_zero, List.getElem_cons_succ, List.setIfInBounds_toArray, List.set_cons_zero, List.set_cons_succ]
          refine wpAnyH_take (i := 3) (v := (.slice (a p) (L p) (c p))) rfl (by kernel_rfl) (by kernel_rfl) (by kernel_rfl) (fun _ _ _ h => h) (Or.inl ⟨by rfl, ?hy25x3⟩) (by assumption) ?rest25x3
          case hy25x3 => intro w hSw; have s1 := (((unhide HC) _ hSw).1 p hlp).1.1; go_simp <;> with_reducible rfl
          simp only [Act.put, List.getElem_toArray, List.getElem_cons_zero, List.getElem_cons_succ, List.setIfInBounds_toArray, List.set_cons_zero, List.set_cons_succ]
          refine wpAnyH_take (i := 4) (v := ?v26x4) rfl (by kernel_rfl) (by kernel_rfl) (by kernel_rfl) (fun _ _ _ h => h) (Or.inl ⟨by rfl, ?hy26x4⟩) (by assumption) ?rest26x4
          case hy26x4 => intro w hSw; go_simp <;> with_reducible rfl
          simp only [Act.put, List.getElem_toArray, List.getElem_cons_zero, List.getElem_cons_succ, List.setIfInBounds_toArray, List.set_cons_zero, List.set_cons_succ]
          refine wpAnyH_take (i := 5) (v := ?v27x5) rfl (by kernel_rfl) (by kernel_rfl) (by kernel_rfl) (fun _ _ _ h => h) (Or.inl ⟨by rfl, ?hy27x5⟩) (by assumption) ?rest27x5
          case hy27x5 => intro w hSw; go_simp <;> with_reducible rfl
          simp only [Act.put, List.getElem_toArray, List.getElem_cons_zero, List.getElem_cons_succ, List.setIfInBounds_toArray, List.set_cons_zero, List.set_cons_succ]
          refine wpAnyH_take (i := 6) (v := ?v28x6) rfl (by kernel_rfl) (by kernel_rfl) (by kernel_rfl) (fun _ _ _ h => h) (Or.inl ⟨by rfl, ?hy28x6⟩) (by assumption) ?rest28x6
          case hy28x6 => intro w hSw; go_simp <;> with_reducible rfl
          simp only [Act.put, List.getElem_toArray, List.getElem_cons_zero, List.getElem_cons_succ, List.setIfInBounds_toArray, List.set_cons_zero, List.set_cons_succ]
          refine wpAnyH_take (i := 7) (v := (.slice (b p) (M p) (d p))) rfl (by kernel_rfl) (by kernel_rfl) (by kernel_rfl) (fun _ _ _ h => h) (Or.inl ⟨by rfl, ?hy29x7⟩) (by assumption) ?rest29x7
          case hy29x7 => intro w hSw; have s1 := (((unhide HC) _ hSw).1 p hlp).2.1; go_simp <;> with_reducible rfl
          simp only [Act.put, List.getElem_toArray, List.getElem_cons_zero, List.getElem_cons_succ, List.setIfInBounds_toArray, List.set_cons_zero, List.set_cons_succ]
          refine wpAnyH_ready (rs := [8]) (by kernel_rfl) (by simp) ?_
          refine AllReadyH.cons rfl (fun K hK => ?_) AllReadyH.nil
          go_simp
          refine (unhide H1 _ ((unhide HBR).drew)).mono ?_
          rintro e w1 ⟨rfl, hb1⟩
          refine hK _ _ ((unhide HBR).drew.trans (hb1.mono (unhide HBR).drew.size)) ?_
          clear hK hHeld
          have HB1 : Hid (Below Y.heap.size Y w1) := ((unhide HBR).drew.trans (hb1.mono (unhide HBR).drew.size))
          clear hb1
          intro hHeld
          refine wpAnyH_take (i := 9) (v := ?v30x9) rfl (by kernel_rfl) (by kernel_rfl) (by kernel_rfl) (fun _ _ _ h => h) (Or.inl ⟨by rfl, ?hy30x9⟩) (by assumption) ?rest30x9
          case hy30x9 => intro w hSw; go_simp <;> with_reducible rfl
          simp only [Act.put, List.getElem_toArray, List.getElem_cons_zero, List.getElem_cons_succ, List.setIfInBounds_toArray, List.set_cons_zero, List.set_cons_succ]
          refine wpAnyH_take (i := 10) (v := ?v31x10) rfl (by kernel_rfl) (by kernel_rfl) (by kernel_rfl) (fun _ _ _ h => h) (Or.inl ⟨by rfl, ?hy31x10⟩) (by assumption) ?rest31x10
          case hy31x10 => intro w hSw; go_simp <;> with_reducible rfl
          simp only [Act.put, List.getElem_toArray, List.getElem_cons_zero, List.getElem_cons_succ, List.setIfInBounds_toArray, List.set_cons_zero, List.set_cons_succ]
          refine wpAnyH_take (i := 11) (v := ?v32x11) rfl (by kernel_rfl) (by kernel_rfl) (by kernel_rfl) (fun _ _ _ h => h) (Or.inl ⟨by rfl, ?hy32x11⟩) (by assumption) ?rest32x11
          case hy32x11 => intro w hSw; go_simp <;> with_reducible rfl
          simp only [Act.put, List.getElem_toArray, List.getElem_cons_zero, List.getElem_cons_succ, List.setIfInBounds_toArray, List.set_cons_zero, List.set_cons_succ]
          refine wpAnyH_take (i := 12) (v := ?v33x12) rfl (by kernel_rfl) (by kernel_rfl) (by kernel_rfl) (fun _ _ _ h => h) (Or.inl ⟨by rfl, ?hy33x12⟩) (by assumption) ?rest33x12
          case hy33x12 => intro w hSw; go_simp <;> with_reducible rfl
          simp only [Act.put, List.getElem_toArray, List.getElem_cons_zero, List.getElem_cons_succ, List.setIfInBounds_toArray, List.set_cons_zero, List.set_cons_succ]
          refine wpAnyH_take (i := 13) (v := ?v34x13) rfl (by kernel_rfl) (by kernel_rfl) (by kernel_rfl) (fun _ _ _ h => h) (Or.inl ⟨by rfl, ?hy34x13⟩) (by assumption) ?rest34x13
          case hy34x13 => intro w hSw; go_simp <;> with_reducible rfl
          simp only [Act.put, List.getElem_toArray, List.getElem_cons_zero, List.getElem_cons_succ, List.setIfInBounds_toArray, List.set_cons_zero, List.set_cons_succ]
          refine wpAnyH_take (i := 14) (v := (.slice (a' p) (L' p) (c' p))) rfl (by kernel_rfl) (by kernel_rfl) (by kernel_rfl) (fun _ _ _ h => h) (Or.inl ⟨by rfl, ?hy35x14⟩) (by assumption) ?rest35x14
          case hy35x14 => intro w hSw; have s1 := (((unhide HC) _ hSw).1 p hlp).1.2; go_simp <;> with_reducible rfl
          simp only [Act.put, List.getElem_toArray, List.getElem_cons_zero, List.getElem_cons_succ, List.setIfInBounds_toArray, List.set_cons_zero, List.set_cons_succ]
          refine wpAnyH_take (i := 15) (v := ?v36x15) rfl (by kernel_rfl) (by kernel_rfl) (by kernel_rfl) (fun _ _ _ h => h) (Or.inl ⟨by rfl, ?hy36x15⟩) (by assumption) ?rest36x15
          case hy36x15 => intro w hSw; go_simp <;> with_reducible rfl
          simp only [Act.put, List.getElem_toArray, List.getElem_cons_zero, List.getElem_cons_succ, List.setIfInBounds_toArray, List.set_cons_zero, List.set_cons_succ]
          refine wpAnyH_take (i := 16) (v := ?v37x16) rfl (by kernel_rfl) (by kernel_rfl) (by kernel_rfl) (fun _ _ _ h => h) (Or.inl ⟨by rfl, ?hy37x16⟩) (by assumption) ?rest37x16
          case hy37x16 => intro w hSw; go_simp <;> with_reducible rfl
          simp only [Act.put, List.getElem_toArray, List.getElem_cons_zero, List.getElem_cons_succ, List.setIfInBounds_toArray, List.set_cons_zero, List.set_cons_succ]
          refine wpAnyH_take (i := 17) (v := ?v38x17) rfl (by kernel_rfl) (by kernel_rfl) (by kernel_rfl) (fun _ _ _ h => h) (Or.inl ⟨by rfl, ?hy38x17⟩) (by assumption) ?rest38x17
          case hy38x17 => intro w hSw; go_simp <;> with_reducible rfl
          simp only [Act.put, List.getElem_toArray, List.getElem_cons_zero, List.getElem_cons_succ, List.setIfInBounds_toArray, List.set_cons_zero, List.set_cons_succ]
          refine wpAnyH_take (i := 18) (v := (.slice (b' p) (M' p) (d' p))) rfl (by kernel_rfl) (by kernel_rfl) (by kernel_rfl) (fun _ _ _ h => h) (Or.inl ⟨by rfl, ?hy39x18⟩) (by assumption) ?rest39x18
          case hy39x18 => intro w hSw; have s1 := (((unhide HC) _ hSw).1 p hlp).2.2; go_simp <;> with_reducible rfl
          simp only [Act.put, List.getElem_toArray, List.getElem_cons_zero, List.getElem_cons_succ, List.setIfInBounds_toArray, List.set_cons_zero, List.set_cons_succ]
          refine wpAnyH_ready (rs := [19]) (by kernel_rfl) (by simp) ?_
          refine AllReadyH.cons rfl (fun K hK => ?_) AllReadyH.nil
          go_simp
          refine (unhide H2 _ (unhide HB1)).mono ?_
          rintro e w2 ⟨rfl, hb2⟩
          refine hK _ _ ((unhide HB1).trans (hb2.mono (unhide HB1).size)) ?_
          clear hK hHeld
          have HB2 : Hid (Below Y.heap.size Y w2) := ((unhide HB1).trans (hb2.mono (unhide HB1).size))
          clear hb2
          intro hHeld
          refine wpAnyH_take (i := 20) (v := ?v40x20) rfl (by kernel_rfl) (by kernel_rfl) (by kernel_rfl) (fun _ _ _ h => h) (Or.inl ⟨by rfl, ?hy40x20⟩) (by assumption) ?rest40x20
          case hy40x20 => intro w hSw; go_simp <;> with_reducible rfl
          simp only [Act.put, List.getElem_toArray, List.getElem_cons_zero, List.getElem_cons_succ, List.setIfInBounds_toArray, List.set_cons_zero, List.set_cons_succ]
          refine wpAnyH_take (i := 21) (v := ?v41x21) rfl (by kernel_rfl) (by kernel_rfl) (by kernel_rfl) (fun _ _ _ h => h) (Or.inl ⟨by rfl, ?hy41x21⟩) (by assumption) ?rest41x21
          case hy41x21 => intro w hSw; go_simp <;> with_reducible rfl
          simp only [Act.put, List.getElem_toArray, List.getElem_cons_zero, List.getElem_cons_succ, List.setIfInBounds_toArray, List.set_cons_zero, List.set_cons_succ]
          refine wpAnyH_done (by kernel_rfl) ?_ _
          go_wp2
          go_ret
          refine ⟨retBool ?_, (unhide HBY).trans ((unhide HB2).mono (unhide HBY).size)⟩
          rw [← unhide HRR]
          have h := sameA_mono (show p + 1 ≤ 8 by omega) (show sameA A B (p + 1) = false by simp [sameA, (unhide HQ).2])
          simp [sameF, h]
        | true =>
          go_wp2
          refine wp_region_held_drew (S := fun x => Below Y.heap.size Y x) (by kernel_rfl) ((unhide HBR).drew) (fun hHeld => ?_)
          refine wpAnyH_take (i := 0) (v := ?v42x0) rfl (by kernel_rfl) (by kernel_rfl) (by kernel_rfl) (fun _ _ _ h => h) (Or.inl ⟨by rfl, ?hy42x0⟩) (by assumption) ?rest42x0
          case hy42x0 => intro w hSw; go_simp <;> with_reducible rfl
          simp only [Act.put, List.getElem_toArray, List.getElem_cons_zero, List.setIfInBounds_toArray, List.set_cons_zero, List.set_cons_succ]
          refine wpAnyH_take (i := 1) (v := ?v43x1) rfl (by kernel_rfl) (by kernel_rfl) (by kernel_rfl) (fun _ _ _ h => h) (Or.inl ⟨by rfl, ?hy43x1⟩) (by assumption) ?rest43x1
          case hy43x1 => intro w hSw; go_simp <;> with_reducible rfl
          simp only [Act.put, List.getElem_toArray, List.getElem_cons_zero, List.getElem_cons_succ, List.setIfInBounds_toArray, List.set_cons_zero, List.set_cons_succ]
          refine wpAnyH_take (i := 2) (v := ?v44x2) rfl (by kernel_rfl) (by kernel_rfl) (by kernel_rfl) (fun _ _ _ h => h) (Or.inl ⟨by rfl, ?hy44x2⟩) (by assumption) ?rest44x2
          case hy44x2 => intro w hSw; go_simp <;> with_reducible rfl
          simp only [Act.put, List.getElem_toArray, List.getElem_cons_zero, List.getElem_cons_succ, List.setIfInBounds_toArray, List.set_cons_zero, List.set_cons_succ]
          refine wpAnyH_take (i := 3) (v := (.slice (a p) (L p) (c p))) rfl (by kernel_rfl) (by kernel_rfl) (by kernel_rfl) (fun _ _ _ h => h) (Or.inl ⟨by rfl, ?hy45x3⟩) (by assumption) ?rest45x3
          case hy45x3 => intro w hSw; have s1 := (((unhide HC) _ hSw).1 p hlp).1.1; go_simp <;> with_reducible rfl
          simp only [Act.put, List.getElem_toArray, List.getElem_cons_zero, List.getElem_cons_succ, List.setIfInBounds_toArray, List.set_cons_zero, List.set_cons_succ]
          refine wpAnyH_take (i := 4) (v := ?v46x4) rfl (by kernel_rfl) (by kernel_rfl) (by kernel_rfl) (fun _ _ _ h => h) (Or.inl ⟨by rfl, ?hy46x4⟩) (by assumption) ?rest46x4
          case hy46x4 => intro w hSw; go_simp <;> with_reducible rfl
          simp only [Act.put, List.getElem_toArray, List.getElem_cons_zero, List.getElem_cons_succ, List.setIfInBounds_toArray, List.set_cons_zero, List.set_cons_succ]
          refine wpAnyH_take (i := 5) (v := ?v47x5) rfl (by kernel_rfl) (by kernel_rfl) (by kernel_rfl) (fun _ _ _ h => h) (Or.inl ⟨by rfl, ?hy47x5⟩) (by assumption) ?rest47x5
          case hy47x5 => intro w hSw; go_simp <;> with_reducible rfl
          simp only [Act.put, List.getElem_toArray, List.getElem_cons_zero, List.getElem_cons_succ, List.setIfInBounds_toArray, List.set_cons_zero, List.set_cons_succ]
          refine wpAnyH_take (i := 6) (v := ?v48x6) rfl (by kernel_rfl) (by kernel_rfl) (by kernel_rfl) (fun _ _ _ h => h) (Or.inl ⟨by rfl, ?hy48x6⟩) (by assumption) ?rest48x6
          case hy48x6 => intro w hSw; go_simp <;> with_reducible rfl
          simp only [Act.put, List.getElem_toArray, List.getElem_cons_zero, List.getElem_cons_succ, List.setIfInBounds_toArray, List.set_cons_zero, List.set_cons_succ]
          refine wpAnyH_take (i := 7) (v := (.slice (b p) (M p) (d p))) rfl (by kernel_rfl) (by kernel_rfl) (by kernel_rfl) (fun _ _ _ h => h) (Or.inl ⟨by rfl, ?hy49x7⟩) (by assumption) ?rest49x7
          case hy49x7 => intro w hSw; have s1 := (((unhide HC) _ hSw).1 p hlp).2.1; go_simp <;> with_reducible rfl
          simp only [Act.put, List.getElem_toArray, List.getElem_cons_zero, List.getElem_cons_succ, List.setIfInBounds_toArray, List.set_cons_zero, List.set_cons_succ]
          refine wpAnyH_ready (rs := [8]) (by kernel_rfl) (by simp) ?_
          refine AllReadyH.cons rfl (fun K hK => ?_) AllReadyH.nil
          go_simp
          refine (unhide H1 _ ((unhide HBR).drew)).mono ?_
          rintro e w1 ⟨rfl, hb1⟩
          refine hK _ _ ((unhide HBR).drew.trans (hb1.mono (unhide HBR).drew.size)) ?_
          clear hK hHeld
          have HB1 : Hid (Below Y.heap.size Y w1) := ((unhide HBR).drew.trans (hb1.mono (unhide HBR).drew.size))
          clear hb1
          intro hHeld
          refine wpAnyH_take (i := 9) (v := ?v50x9) rfl (by kernel_rfl) (by kernel_rfl) (by kernel_rfl) (fun _ _ _ h => h) (Or.inl ⟨by rfl, ?hy50x9⟩) (by assumption) ?rest50x9
          case hy50x9 => intro w hSw; go_simp <;> with_reducible rfl
          simp only [Act.put, List.getElem_toArray, List.getElem_cons_zero, List.getElem_cons_succ, List.setIfInBounds_toArray, List.set_cons_zero, List.set_cons_succ]
          refine wpAnyH_take (i := 10) (v := ?v51x10) rfl (by kernel_rfl) (by kernel_rfl) (by kernel_rfl) (fun _ _ _ h => h) (Or.inl ⟨by rfl, ?hy51x10⟩) (by assumption) ?rest51x10
          case hy51x10 => intro w hSw; go_simp <;> with_reducible rfl
          simp only [Act.put, List.getElem_toArray, List.getElem_cons_zero, List.getElem_cons_succ, List.setIfInBounds_toArray, List.set_cons_zero, List.set_cons_succ]
          refine wpAnyH_take (i := 11) (v := ?v52x11) rfl (by kernel_rfl) (by kernel_rfl) (by kernel_rfl) (fun _ _ _ h => h) (Or.inl ⟨by rfl, ?hy52x11⟩) (by assumption) ?rest52x11
          case hy52x11 => intro w hSw; go_simp <;> with_reducible rfl
          simp only [Act.put, List.getElem_toArray, List.getElem_cons_zero, List.getElem_cons_succ, List.setIfInBounds_toArray, List.set_cons_zero, List.set_cons_succ]
          refine wpAnyH_take (i := 12) (v := ?v53x12) rfl (by kernel_rfl) (by kernel_rfl) (by kernel_rfl) (fun _ _ _ h => h) (Or.inl ⟨by rfl, ?hy53x12⟩) (by assumption) ?rest53x12
          case hy53x12 => intro w hSw; go_simp <;> with_reducible rfl
          simp only [Act.put, List.getElem_toArray, List.getElem_cons_zero, List.getElem_cons_succ, List.setIfInBounds_toArray, List.set_cons_zero, List.set_cons_succ]
          refine wpAnyH_take (i := 13) (v := ?v54x13) rfl (by kernel_rfl) (by kernel_rfl) (by kernel_rfl) (fun _ _ _ h => h) (Or.inl ⟨by rfl, ?hy54x13⟩) (by assumption) ?rest54x13
          case hy54x13 => intro w hSw; go_simp <;> with_reducible rfl
          simp only [Act.put, List.getElem_toArray, List.getElem_cons_zero, List.getElem_cons_succ, List.setIfInBounds_toArray, List.set_cons_zero, List.set_cons_succ]
          refine wpAnyH_take (i := 14) (v := (.slice (a' p) (L' p) (c' p))) rfl (by kernel_rfl) (by kernel_rfl) (by kernel_rfl) (fun _ _ _ h => h) (Or.inl ⟨by rfl, ?hy55x14⟩) (by assumption) ?rest55x14
          case hy55x14 => intro w hSw; have s1 := (((unhide HC) _ hSw).1 p hlp).1.2; go_simp <;> with_reducible rfl
          simp only [Act.put, List.getElem_toArray, List.getElem_cons_zero, List.getElem_cons_succ, List.setIfInBounds_toArray, List.set_cons_zero, List.set_cons_succ]
          refine wpAnyH_take (i := 15) (v := ?v56x15) rfl (by kernel_rfl) (by kernel_rfl) (by kernel_rfl) (fun _ _ _ h => h) (Or.inl ⟨by rfl, ?hy56x15⟩) (by assumption) ?rest56x15
          case hy56x15 => intro w hSw; go_simp <;> with_reducible rfl
          simp only [Act.put, List.getElem_toArray, List.getElem_cons_zero, List.getElem_cons_succ, List.setIfInBounds_toArray, List.set_cons_zero, List.set_cons_succ]
          refine wpAnyH_take (i := 16) (v := ?v57x16) rfl (by kernel_rfl) (by kernel_rfl) (by kernel_rfl) (fun _ _ _ h => h) (Or.inl ⟨by rfl, ?hy57x16⟩) (by assumption) ?rest57x16
          case hy57x16 => intro w hSw; go_simp <;> with_reducible rfl
          simp only [Act.put, List.getElem_toArray, List.getElem_cons_zero, List.getElem_cons_succ, List.setIfInBounds_toArray, List.set_cons_zero, List.set_cons_succ]
          refine wpAnyH_take (i := 17) (v := ?v58x17) rfl (by kernel_rfl) (by kernel_rfl) (by kernel_rfl) (fun _ _ _ h => h) (Or.inl ⟨by rfl, ?hy58x17⟩) (by assumption) ?rest58x17
          case hy58x17 => intro w hSw; go_simp <;> with_reducible rfl
          simp only [Act.put, List.getElem_toArray, List.getElem_cons_zero, List.getElem_cons_succ, List.setIfInBounds_toArray, List.set_cons_zero, List.set_cons_succ]
          refine wpAnyH_take (i := 18) (v := (.slice (b' p) (M' p) (d' p))) rfl (by kernel_rfl) (by kernel_rfl) (by kernel_rfl) (fun _ _ _ h => h) (Or.inl ⟨by rfl, ?hy59x18⟩) (by assumption) ?rest59x18
          case hy59x18 => intro w hSw; have s1 := (((unhide HC) _ hSw).1 p hlp).2.2; go_simp <;> with_reducible rfl
          simp only [Act.put, List.getElem_toArray, List.getElem_cons_zero, List.getElem_cons_succ, List.setIfInBounds_toArray, List.set_cons_zero, List.set_cons_succ]
          refine wpAnyH_ready (rs := [19]) (by kernel_rfl) (by simp) ?_
          refine AllReadyH.cons rfl (fun K hK => ?_) AllReadyH.nil
          go_simp
          refine (unhide H2 _ (unhide HB1)).mono ?_
          rintro e w2 ⟨rfl, hb2⟩
          refine hK _ _ ((unhide HB1).trans (hb2.mono (unhide HB1).size)) ?_
          clear hK hHeld
          have HB2 : Hid (Below Y.heap.size Y w2) := ((unhide HB1).trans (hb2.mono (unhide HB1).size))
          clear hb2
          intro hHeld
          refine wpAnyH_take (i := 20) (v := ?v60x20) rfl (by kernel_rfl) (by kernel_rfl) (by kernel_rfl) (fun _ _ _ h => h) (Or.inl ⟨by rfl, ?hy60x20⟩) (by assumption) ?rest60x20
          case hy60x20 => intro w hSw; go_simp <;> with_reducible rfl
          simp only [Act.put, List.getElem_toArray, List.getElem_cons_zero, List.getElem_cons_succ, List.setIfInBounds_toArray, List.set_cons_zero, List.set_cons_succ]
          refine wpAnyH_take (i := 21) (v := ?v61x21) rfl (by kernel_rfl) (by kernel_rfl) (by kernel_rfl) (fun _ _ _ h => h) (Or.inl ⟨by rfl, ?hy61x21⟩) (by assumption) ?rest61x21
          case hy61x21 => intro w hSw; go_simp <;> with_reducible rfl
          simp only [Act.put, List.getElem_toArray, List.getElem_cons_zero, List.getElem_cons_succ, List.setIfInBounds_toArray, List.set_cons_zero, List.set_cons_succ]
          refine wpAnyH_done (by kernel_rfl) ?_ _
          go_wp2
          go_roundw
          case rel => exact ⟨p + 1, by omega, by go_num, by simp [sameA, unhide HSA, (unhide HQ).1, (unhide HQ).2], unhide HB2⟩
          case measure => simp [intOf]; omega
    · obtain rfl : p = 8 := by omega
      obtain ⟨_, s16, s17, t16, t17⟩ := (unhide HC) wr (unhide HBR)
      obtain ⟨q1, hq1⟩ : ∃ q, decide (A.ps = B.ps) = q := ⟨_, rfl⟩
      obtain ⟨q2, hq2⟩ : ∃ q, decide (A.ts = B.ts) = q := ⟨_, rfl⟩
      have HQ := hide (And.intro hq1 hq2)
      have H1 : Hid (Calls Try.prog 25 #[.slice ap np cp, .slice aq nq cq] wr fun e w' => e = .returned (.bool q1) ∧ Below wr.heap.size wr w') := hq1 ▸ ints_any ((unhide HS) wr (unhide HBR)).2.1 ((unhide HS) wr (unhide HBR)).2.2.2.1
      have H2 : Hid (∀ z, Below Y.heap.size Y z → Calls Try.prog 25 #[.slice at' nt ct, .slice as' ns cs'] z fun e w' => e = .returned (.bool q2) ∧ Below z.heap.size z w') := fun z hz => hq2 ▸ ints_any ((unhide HS) z hz).2.2.1 ((unhide HS) z hz).2.2.2.2
      clear hq1 hq2
      cases q1 with
      | false =>
        go_wp2_with (go_at_call 25; refine (unhide H1).mono ?_; rintro e w1 ⟨rfl, hb1⟩; have HB1 : Hid (Below Y.heap.size Y w1) := (unhide HBR).trans (hb1.mono (unhide HBR).size); clear hb1 H1)
        go_ret
        refine ⟨retBool ?_, (unhide HBY).trans ((unhide HB1).mono (unhide HBY).size)⟩
        rw [← unhide HRR]
        simp [sameF, (unhide HQ).1]
      | true =>
        go_wp2_with (first | (go_at_call_of 25 (Value.slice ap np cp); refine (unhide H1).mono ?_; rintro e w1 ⟨rfl, hb1⟩; have HB1 : Hid (Below Y.heap.size Y w1) := (unhide HBR).trans (hb1.mono (unhide HBR).size); have r17 := ((unhide HC) w1 (unhide HB1)).2.2.1; have r18 := ((unhide HC) w1 (unhide HB1)).2.2.2.2; clear hb1 H1) | (go_at_call 25; refine ((unhide H2) _ (unhide HB1)).mono ?_; rintro e w2 ⟨rfl, hb2⟩; have HB2 : Hid (Below Y.heap.size Y w2) := (unhide HB1).trans (hb2.mono (unhide HB1).size); clear hb2 H2))
        go_ret
        refine ⟨retBool ?_, (unhide HBY).trans ((unhide HB2).mono (unhide HBY).size)⟩
        rw [← unhide HRR]
        simp [sameF, unhide HSA, (unhide HQ).1, (unhide HQ).2]

set_option maxHeartbeats 6400000 in
theorem rsame_any {w : World} {U V : Array Value} {A B : Fp} (hu : SeesF w U A) (hv : SeesF w V B) :
    Calls Try.prog 10 #[.agg U, .agg V] w fun e w' => e = .returned (.bool (sameF A B)) ∧ Below w.heap.size w w' := by
  have HU0 : Hid (∀ z, Below w.heap.size w z → SeesF z U A) := fun z hz => hu.below hz
  have HV0 : Hid (∀ z, Below w.heap.size w z → SeesF z V B) := fun z hz => hv.below hz
  obtain ⟨a, L, c, a', L', c', pv, tv, eU, _, _, hps, hts⟩ := hu.ex
  obtain ⟨b, M, d, b', M', d', qv, sv, eV, _, _, hqs, hss⟩ := hv.ex
  obtain ⟨ap, cp, ep⟩ := hps.shape
  obtain ⟨at', ct, et⟩ := hts.shape
  obtain ⟨aq, cq, eq'⟩ := hqs.shape
  obtain ⟨as', cs', es⟩ := hss.shape
  obtain ⟨np, hnp⟩ : ∃ n, A.ps.length = n := ⟨_, rfl⟩
  obtain ⟨nt, hnt⟩ : ∃ n, A.ts.length = n := ⟨_, rfl⟩
  obtain ⟨nq, hnq⟩ : ∃ n, B.ps.length = n := ⟨_, rfl⟩
  obtain ⟨ns, hns⟩ : ∃ n, B.ts.length = n := ⟨_, rfl⟩
  rw [hnp] at ep
  rw [hnt] at et
  rw [hnq] at eq'
  rw [hns] at es
  subst ep et eq' es
  obtain ⟨Y0, hY0⟩ : ∃ y, w.alloc (.cells U 32) = y := ⟨_, rfl⟩
  obtain ⟨Y, hY⟩ : ∃ y, Y0.alloc (.cells V 32) = y := ⟨_, rfl⟩
  have b0 : Below w.heap.size w Y0 := hY0 ▸ below_box _
  have z0 : Y0.heap.size = w.heap.size + 1 := by rw [← hY0]; simp
  have bY : Below w.heap.size w Y := hY ▸ b0.alloc b0.size _
  have xY : Y.heap[w.heap.size]? = some (.cells U 32) := by rw [← hY]; exact (Below.heap_alloc Y0 _ _ (by omega)).trans (hY0 ▸ heap_alloc_new w _)
  have uY : Y.heap[Y0.heap.size]? = some (.cells V 32) := by rw [← hY]; exact heap_alloc_new Y0 _
  have HC : Hid (∀ z, Below Y.heap.size Y z → (∀ p, p < 8 → (z.cell? ⟨w.heap.size, p, none⟩ = some (.slice (a p) (L p) (c p)) ∧ z.cell? ⟨w.heap.size, 8 + p, none⟩ = some (.slice (a' p) (L' p) (c' p))) ∧ z.cell? ⟨Y0.heap.size, p, none⟩ = some (.slice (b p) (M p) (d p)) ∧ z.cell? ⟨Y0.heap.size, 8 + p, none⟩ = some (.slice (b' p) (M' p) (d' p))) ∧ z.cell? ⟨w.heap.size, 16, none⟩ = some (.slice ap np cp) ∧ z.cell? ⟨w.heap.size, 17, none⟩ = some (.slice at' nt ct) ∧ z.cell? ⟨Y0.heap.size, 16, none⟩ = some (.slice aq nq cq) ∧ z.cell? ⟨Y0.heap.size, 17, none⟩ = some (.slice as' ns cs')) := fun z hz => by
    have h1 := (hz.block _ (Array.getElem?_eq_some_iff.1 xY).1).trans xY
    have h2 := (hz.block _ (Array.getElem?_eq_some_iff.1 uY).1).trans uY
    rw [eU] at h1
    rw [eV] at h2
    exact ⟨fun p hp => ⟨ft_cells h1 hp, ft_cells h2 hp⟩, cell_at h1, cell_at h1, cell_at h2, cell_at h2⟩
  have HBY := hide bY
  have HS : Hid (∀ z, Below Y.heap.size Y z → (∀ p, p < 8 → (SeesL kC 2 z (.slice (a p) (L p) (c p)) (A.rd p) ∧ SeesL kC 2 z (.slice (a' p) (L' p) (c' p)) (A.wt p)) ∧ SeesL kC 2 z (.slice (b p) (M p) (d p)) (B.rd p) ∧ SeesL kC 2 z (.slice (b' p) (M' p) (d' p)) (B.wt p)) ∧ SeesL nC 1 z (.slice ap np cp) A.ps ∧ SeesL nC 1 z (.slice at' nt ct) A.ts ∧ SeesL nC 1 z (.slice aq nq cq) B.ps ∧ SeesL nC 1 z (.slice as' ns cs') B.ts) := fun z hz => by
    have hwz := bY.trans (hz.mono bY.size)
    rename_i hu1 hu2 hv1 hv2
    exact ⟨fun p hp => ⟨⟨(hu1 p hp).below kC_len hwz, (hu2 p hp).below kC_len hwz⟩, (hv1 p hp).below kC_len hwz, (hv2 p hp).below kC_len hwz⟩, hps.below nC_len hwz, hts.below nC_len hwz, hqs.below nC_len hwz, hss.below nC_len hwz⟩
  have HY0 := hide hY0
  have HY := hide hY
  obtain ⟨R, hR⟩ : ∃ r, sameF A B = r := ⟨_, rfl⟩
  rw [hR]
  have HRR := hide hR
  clear hR hu hv hps hts hqs hss b0 z0 bY xY uY hY0 hY hnp hnt hnq hns eU eV HU0 HV0
  rename_i hu1 hu2 hv1 hv2
  clear hu1 hu2 hv1 hv2
  go_enter Try.func10, Try.ntmps10
  go_wp2_with (first | rw [unhide HY0] | rw [unhide HY])
  go_loopw [5] (fun c wr => ∃ p : Nat, p ≤ 8 ∧ c = .int .i64 p ∧ sameA A B p = true ∧ Below Y.heap.size Y wr) (fun c _ => 8 - (intOf c).toNat)
  case atStart => exact ⟨0, by omega, rfl, rfl, Below.refl _ _⟩
  case round =>
    obtain ⟨p, hp, rfl, hsa, hbr⟩ := hrel
    have HSA := hide hsa
    have HBR := hide hbr
    clear hsa hbr
    by_cases hlp : p < 8
    · obtain ⟨q1, hq1⟩ : ∃ q, decide (A.rd p = B.rd p) = q := ⟨_, rfl⟩
      obtain ⟨q2, hq2⟩ : ∃ q, decide (A.wt p = B.wt p) = q := ⟨_, rfl⟩
      have HQ := hide (And.intro hq1 hq2)
      have H1 : Hid (∀ z, Below Y.heap.size Y z → Calls Try.prog 34 #[.slice (a p) (L p) (c p), .slice (b p) (M p) (d p)] z fun e w' => e = .returned (.bool q1) ∧ Below z.heap.size z w') := fun z hz => hq1 ▸ samekeys_b (((unhide HS) z hz).1 p hlp).1.1 (((unhide HS) z hz).1 p hlp).2.1
      have H2 : Hid (∀ z, Below Y.heap.size Y z → Calls Try.prog 34 #[.slice (a' p) (L' p) (c' p), .slice (b' p) (M' p) (d' p)] z fun e w' => e = .returned (.bool q2) ∧ Below z.heap.size z w') := fun z hz => hq2 ▸ samekeys_b (((unhide HS) z hz).1 p hlp).1.2 (((unhide HS) z hz).1 p hlp).2.2
      obtain ⟨sa, na, ca, hsa⟩ : ∃ x y z, (a p, L p, c p) = (x, y, z) := ⟨_, _, _, rfl⟩
      clear hq1 hq2
      cases q1 with
      | false =>
        go_wp2
        refine wp_region_held_drew (S := fun x => Below Y.heap.size Y x) (by kernel_rfl) ((unhide HBR).drew) (fun hHeld => ?_)
        refine wpAnyH_take (i := 0) (v := ?v62x0) rfl (by kernel_rfl) (by kernel_rfl) (by kernel_rfl) (fun _ _ _ h => h) (Or.inl ⟨by rfl, ?hy62x0⟩) (by assumption) ?rest62x0
        case hy62x0 => intro w hSw; go_simp <;> with_reducible rfl
        simp only [Act.put, List.getElem_toArray, List.getElem_cons_zero, List.setIfInBounds_toArray, List.set_cons_zero, List.set_cons_succ]
        refine wpAnyH_take (i := 1) (v := ?v63x1) rfl (by kernel_rfl) (by kernel_rfl) (by kernel_rfl) (fun _ _ _ h => h) (Or.inl ⟨by rfl, ?hy63x1⟩) (by assumption) ?rest63x1
        case hy63x1 => intro w hSw; go_simp <;> with_reducible rfl
        simp only [Act.put, List.getElem_toArray, List.getElem_cons_zero, List.getElem_cons_succ, List.setIfInBounds_toArray, List.set_cons_zero, List.set_cons_succ]
        refine wpAnyH_take (i := 2) (v := ?v64x2) rfl (by kernel_rfl) (by kernel_rfl) (by kernel_rfl) (fun _ _ _ h => h) (Or.inl ⟨by rfl, ?hy64x2⟩) (by assumption) ?rest64x2
        case hy64x2 => intro w hSw; go_simp <;> with_reducible rfl
        simp only [Act.put, List.getElem_toArray, List.getElem_cons_zero, List.getElem_cons_succ, List.setIfInBounds_toArray, List.set_cons_zero, List.set_cons_succ]
        refine wpAnyH_take (i := 3) (v := (.slice (a p) (L p) (c p))) rfl (by kernel_rfl) (by kernel_rfl) (by kernel_rfl) (fun _ _ _ h => h) (Or.inl ⟨by rfl, ?hy65x3⟩) (by assumption) ?rest65x3
        case hy65x3 => intro w hSw; have s1 := (((unhide HC) _ hSw).1 p hlp).1.1; go_simp <;> with_reducible rfl
        simp only [Act.put, List.getElem_toArray, List.getElem_cons_zero, List.getElem_cons_succ, List.setIfInBounds_toArray, List.set_cons_zero, List.set_cons_succ]
        refine wpAnyH_take (i := 4) (v := ?v66x4) rfl (by kernel_rfl) (by kernel_rfl) (by kernel_rfl) (fun _ _ _ h => h) (Or.inl ⟨by rfl, ?hy66x4⟩) (by assumption) ?rest66x4
        case hy66x4 => intro w hSw; go_simp <;> with_reducible rfl
        simp only [Act.put, List.getElem_toArray, List.getElem_cons_zero, List.getElem_cons_succ, List.setIfInBounds_toArray, List.set_cons_zero, List.set_cons_succ]
        refine wpAnyH_take (i := 5) (v := ?v67x5) rfl (by kernel_rfl) (by kernel_rfl) (by kernel_rfl) (fun _ _ _ h => h) (Or.inl ⟨by rfl, ?hy67x5⟩) (by assumption) ?rest67x5
        case hy67x5 => intro w hSw; go_simp <;> with_reducible rfl
        simp only [Act.put, List.getElem_toArray, List.getElem_cons_zero, List.getElem_cons_succ, List.setIfInBounds_toArray, List.set_cons_zero, List.set_cons_succ]
        refine wpAnyH_take (i := 6) (v := ?v68x6) rfl (by kernel_rfl) (by kernel_rfl) (by kernel_rfl) (fun _ _ _ h => h) (Or.inl ⟨by rfl, ?hy68x6⟩) (by assumption) ?rest68x6
        case hy68x6 => intro w hSw; go_simp <;> with_reducible rfl
        simp only [Act.put, List.getElem_toArray, List.getElem_cons_zero, List.getElem_cons_succ, List.setIfInBounds_toArray, List.set_cons_zero, List.set_cons_succ]
        refine wpAnyH_take (i := 7) (v := (.slice (b p) (M p) (d p))) rfl (by kernel_rfl) (by kernel_rfl) (by kernel_rfl) (fun _ _ _ h => h) (Or.inl ⟨by rfl, ?hy69x7⟩) (by assumption) ?rest69x7
        case hy69x7 => intro w hSw; have s1 := (((unhide HC) _ hSw).1 p hlp).2.1; go_simp <;> with_reducible rfl
        simp only [Act.put, List.getElem_toArray, List.getElem_cons_zero, List.getElem_cons_succ, List.setIfInBounds_toArray, List.set_cons_zero, List.set_cons_succ]
        refine wpAnyH_ready (rs := [8]) (by kernel_rfl) (by simp) ?_
        refine AllReadyH.cons rfl (fun K hK => ?_) AllReadyH.nil
        go_simp
        refine (unhide H1 _ ((unhide HBR).drew)).mono ?_
        rintro e w1 ⟨rfl, hb1⟩
        refine hK _ _ ((unhide HBR).drew.trans (hb1.mono (unhide HBR).drew.size)) ?_
        clear hK hHeld
        have HB1 : Hid (Below Y.heap.size Y w1) := ((unhide HBR).drew.trans (hb1.mono (unhide HBR).drew.size))
        clear hb1
        intro hHeld
        refine wpAnyH_take (i := 9) (v := ?v70x9) rfl (by kernel_rfl) (by kernel_rfl) (by kernel_rfl) (fun _ _ _ h => h) (Or.inl ⟨by rfl, ?hy70x9⟩) (by assumption) ?rest70x9
        case hy70x9 => intro w hSw; go_simp <;> with_reducible rfl
        simp only [Act.put, List.getElem_toArray, List.getElem_cons_zero, List.getElem_cons_succ, List.setIfInBounds_toArray, List.set_cons_zero, List.set_cons_succ]
        refine wpAnyH_take (i := 10) (v := ?v71x10) rfl (by kernel_rfl) (by kernel_rfl) (by kernel_rfl) (fun _ _ _ h => h) (Or.inl ⟨by rfl, ?hy71x10⟩) (by assumption) ?rest71x10
        case hy71x10 => intro w hSw; go_simp <;> with_reducible rfl
        simp only [Act.put, List.getElem_toArray, List.getElem_cons_zero, List.getElem_cons_succ, List.setIfInBounds_toArray, List.set_cons_zero, List.set_cons_succ]
        refine wpAnyH_take (i := 11) (v := undef) rfl (by kernel_rfl) (by kernel_rfl) (by kernel_rfl) (fun _ _ _ h => h) (Or.inr ⟨by rfl, rfl⟩) (by assumption) ?_
        simp only [Act.put, List.getElem_toArray, List.getElem_cons_zero, List.getElem_cons_succ, List.setIfInBounds_toArray, List.set_cons_zero, List.set_cons_succ]
        refine wpAnyH_take (i := 12) (v := undef) rfl (by kernel_rfl) (by kernel_rfl) (by kernel_rfl) (fun _ _ _ h => h) (Or.inr ⟨by rfl, rfl⟩) (by assumption) ?_
        simp only [Act.put, List.getElem_toArray, List.getElem_cons_zero, List.getElem_cons_succ, List.setIfInBounds_toArray, List.set_cons_zero, List.set_cons_succ]
        refine wpAnyH_take (i := 13) (v := undef) rfl (by kernel_rfl) (by kernel_rfl) (by kernel_rfl) (fun _ _ _ h => h) (Or.inr ⟨by rfl, rfl⟩) (by assumption) ?_
        simp only [Act.put, List.getElem_toArray, List.getElem_cons_zero, List.getElem_cons_succ, List.setIfInBounds_toArray, List.set_cons_zero, List.set_cons_succ]
        refine wpAnyH_take (i := 14) (v := undef) rfl (by kernel_rfl) (by kernel_rfl) (by kernel_rfl) (fun _ _ _ h => h) (Or.inr ⟨by rfl, rfl⟩) (by assumption) ?_
        simp only [Act.put, List.getElem_toArray, List.getElem_cons_zero, List.getElem_cons_succ, List.setIfInBounds_toArray, List.set_cons_zero, List.set_cons_succ]
        refine wpAnyH_take (i := 15) (v := undef) rfl (by kernel_rfl) (by kernel_rfl) (by kernel_rfl) (fun _ _ _ h => h) (Or.inr ⟨by rfl, rfl⟩) (by assumption) ?_
        simp only [Act.put, List.getElem_toArray, List.getElem_cons_zero, List.getElem_cons_succ, List.setIfInBounds_toArray, List.set_cons_zero, List.set_cons_succ]
        refine wpAnyH_take (i := 16) (v := undef) rfl (by kernel_rfl) (by kernel_rfl) (by kernel_rfl) (fun _ _ _ h => h) (Or.inr ⟨by rfl, rfl⟩) (by assumption) ?_
        simp only [Act.put, List.getElem_toArray, List.getElem_cons_zero, List.getElem_cons_succ, List.setIfInBounds_toArray, List.set_cons_zero, List.set_cons_succ]
        refine wpAnyH_take (i := 17) (v := undef) rfl (by kernel_rfl) (by kernel_rfl) (by kernel_rfl) (fun _ _ _ h => h) (Or.inr ⟨by rfl, rfl⟩) (by assumption) ?_
        simp only [Act.put, List.getElem_toArray, List.getElem_cons_zero, List.getElem_cons_succ, List.setIfInBounds_toArray, List.set_cons_zero, List.set_cons_succ]
        refine wpAnyH_take (i := 18) (v := undef) rfl (by kernel_rfl) (by kernel_rfl) (by kernel_rfl) (fun _ _ _ h => h) (Or.inr ⟨by rfl, rfl⟩) (by assumption) ?_
        simp only [Act.put, List.getElem_toArray, List.getElem_cons_zero, List.getElem_cons_succ, List.setIfInBounds_toArray, List.set_cons_zero, List.set_cons_succ]
        refine wpAnyH_take (i := 19) (v := undef) rfl (by kernel_rfl) (by kernel_rfl) (by kernel_rfl) (fun _ _ _ h => h) (Or.inr ⟨by rfl, rfl⟩) (by assumption) ?_
        simp only [Act.put, List.getElem_toArray, List.getElem_cons_zero, List.getElem_cons_succ, List.setIfInBounds_toArray, List.set_cons_zero, List.set_cons_succ]
        refine wpAnyH_take (i := 20) (v := undef) rfl (by kernel_rfl) (by kernel_rfl) (by kernel_rfl) (fun _ _ _ h => h) (Or.inr ⟨by rfl, rfl⟩) (by assumption) ?_
        simp only [Act.put, List.getElem_toArray, List.getElem_cons_zero, List.getElem_cons_succ, List.setIfInBounds_toArray, List.set_cons_zero, List.set_cons_succ]
        refine wpAnyH_take (i := 21) (v := ?v82x21) rfl (by kernel_rfl) (by kernel_rfl) (by kernel_rfl) (fun _ _ _ h => h) (Or.inl ⟨by rfl, ?hy82x21⟩) (by assumption) ?rest82x21
        case hy82x21 => intro w hSw; go_simp <;> with_reducible rfl
        simp only [Act.put, List.getElem_toArray, List.getElem_cons_zero, List.getElem_cons_succ, List.setIfInBounds_toArray, List.set_cons_zero, List.set_cons_succ]
        refine wpAnyH_done (by kernel_rfl) ?_ _
        go_wp2
        go_ret
        refine ⟨retBool ?_, (unhide HBY).trans ((unhide HB1).mono (unhide HBY).size)⟩
        rw [← unhide HRR]
        have h := sameA_mono (show p + 1 ≤ 8 by omega) (show sameA A B (p + 1) = false by simp [sameA, (unhide HQ).1])
        simp [sameF, h]
      | true =>
        cases q2 with
        | false =>
          go_wp2
          refine wp_region_held_drew (S := fun x => Below Y.heap.size Y x) (by kernel_rfl) ((unhide HBR).drew) (fun hHeld => ?_)
          refine wpAnyH_take (i := 0) (v := ?v83x0) rfl (by kernel_rfl) (by kernel_rfl) (by kernel_rfl) (fun _ _ _ h => h) (Or.inl ⟨by rfl, ?hy83x0⟩) (by assumption) ?rest83x0
          case hy83x0 => intro w hSw; go_simp <;> with_reducible rfl
          simp only [Act.put, List.getElem_toArray, List.getElem_cons_zero, List.setIfInBounds_toArray, List.set_cons_zero, List.set_cons_succ]
          refine wpAnyH_take (i := 1) (v := ?v84x1) rfl (by kernel_rfl) (by kernel_rfl) (by kernel_rfl) (fun _ _ _ h => h) (Or.inl ⟨by rfl, ?hy84x1⟩) (by assumption) ?rest84x1
          case hy84x1 => intro w hSw; go_simp <;> with_reducible rfl
          simp only [Act.put, List.getElem_toArray, List.getElem_cons_zero, List.getElem_cons_succ, List.setIfInBounds_toArray, List.set_cons_zero, List.set_cons_succ]
          refine wpAnyH_take (i := 2) (v := ?v85x2) rfl (by kernel_rfl) (by kernel_rfl) (by kernel_rfl) (fun _ _ _ h => h) (Or.inl ⟨by rfl, ?hy85x2⟩) (by assumption) ?rest85x2
          case hy85x2 => intro w hSw; go_simp <;> with_reducible rfl
          simp only [Act.put, List.getElem_toArray, List.getElem_cons_zero, List.getElem_cons_succ, List.setIfInBounds_toArray, List.set_cons_zero, List.set_cons_succ]
          refine wpAnyH_take (i := 3) (v := (.slice (a p) (L p) (c p))) rfl (by kernel_rfl) (by kernel_rfl) (by kernel_rfl) (fun _ _ _ h => h) (Or.inl ⟨by rfl, ?hy86x3⟩) (by assumption) ?rest86x3
          case hy86x3 => intro w hSw; have s1 := (((unhide HC) _ hSw).1 p hlp).1.1; go_simp <;> with_reducible rfl
          simp only [Act.put, List.getElem_toArray, List.getElem_cons_zero, List.getElem_cons_succ, List.setIfInBounds_toArray, List.set_cons_zero, List.set_cons_succ]
          refine wpAnyH_take (i := 4) (v := ?v87x4) rfl (by kernel_rfl) (by kernel_rfl) (by kernel_rfl) (fun _ _ _ h => h) (Or.inl ⟨by rfl, ?hy87x4⟩) (by assumption) ?rest87x4
          case hy87x4 => intro w hSw; go_simp <;> with_reducible rfl
          simp only [Act.put, List.getElem_toArray, List.getElem_cons_zero, List.getElem_cons_succ, List.setIfInBounds_toArray, List.set_cons_zero, List.set_cons_succ]
          refine wpAnyH_take (i := 5) (v := ?v88x5) rfl (by kernel_rfl) (by kernel_rfl) (by kernel_rfl) (fun _ _ _ h => h) (Or.inl ⟨by rfl, ?hy88x5⟩) (by assumption) ?rest88x5
          case hy88x5 => intro w hSw; go_simp <;> with_reducible rfl
          simp only [Act.put, List.getElem_toArray, List.getElem_cons_zero, List.getElem_cons_succ, List.setIfInBounds_toArray, List.set_cons_zero, List.set_cons_succ]
          refine wpAnyH_take (i := 6) (v := ?v89x6) rfl (by kernel_rfl) (by kernel_rfl) (by kernel_rfl) (fun _ _ _ h => h) (Or.inl ⟨by rfl, ?hy89x6⟩) (by assumption) ?rest89x6
          case hy89x6 => intro w hSw; go_simp <;> with_reducible rfl
          simp only [Act.put, List.getElem_toArray, List.getElem_cons_zero, List.getElem_cons_succ, List.setIfInBounds_toArray, List.set_cons_zero, List.set_cons_succ]
          refine wpAnyH_take (i := 7) (v := (.slice (b p) (M p) (d p))) rfl (by kernel_rfl) (by kernel_rfl) (by kernel_rfl) (fun _ _ _ h => h) (Or.inl ⟨by rfl, ?hy90x7⟩) (by assumption) ?rest90x7
          case hy90x7 => intro w hSw; have s1 := (((unhide HC) _ hSw).1 p hlp).2.1; go_simp <;> with_reducible rfl
          simp only [Act.put, List.getElem_toArray, List.getElem_cons_zero, List.getElem_cons_succ, List.setIfInBounds_toArray, List.set_cons_zero, List.set_cons_succ]
          refine wpAnyH_ready (rs := [8]) (by kernel_rfl) (by simp) ?_
          refine AllReadyH.cons rfl (fun K hK => ?_) AllReadyH.nil
          go_simp
          refine (unhide H1 _ ((unhide HBR).drew)).mono ?_
          rintro e w1 ⟨rfl, hb1⟩
          refine hK _ _ ((unhide HBR).drew.trans (hb1.mono (unhide HBR).drew.size)) ?_
          clear hK hHeld
          have HB1 : Hid (Below Y.heap.size Y w1) := ((unhide HBR).drew.trans (hb1.mono (unhide HBR).drew.size))
          clear hb1
          intro hHeld
          refine wpAnyH_take (i := 9) (v := ?v91x9) rfl (by kernel_rfl) (by kernel_rfl) (by kernel_rfl) (fun _ _ _ h => h) (Or.inl ⟨by rfl, ?hy91x9⟩) (by assumption) ?rest91x9
          case hy91x9 => intro w hSw; go_simp <;> with_reducible rfl
          simp only [Act.put, List.getElem_toArray, List.getElem_cons_zero, List.getElem_cons_succ, List.setIfInBounds_toArray, List.set_cons_zero, List.set_cons_succ]
          refine wpAnyH_take (i := 10) (v := ?v92x10) rfl (by kernel_rfl) (by kernel_rfl) (by kernel_rfl) (fun _ _ _ h => h) (Or.inl ⟨by rfl, ?hy92x10⟩) (by assumption) ?rest92x10
          case hy92x10 => intro w hSw; go_simp <;> with_reducible rfl
          simp only [Act.put, List.getElem_toArray, List.getElem_cons_zero, List.getElem_cons_succ, List.setIfInBounds_toArray, List.set_cons_zero, List.set_cons_succ]
          refine wpAnyH_take (i := 11) (v := ?v93x11) rfl (by kernel_rfl) (by kernel_rfl) (by kernel_rfl) (fun _ _ _ h => h) (Or.inl ⟨by rfl, ?hy93x11⟩) (by assumption) ?rest93x11
          case hy93x11 => intro w hSw; go_simp <;> with_reducible rfl
          simp only [Act.put, List.getElem_toArray, List.getElem_cons_zero, List.getElem_cons_succ, List.setIfInBounds_toArray, List.set_cons_zero, List.set_cons_succ]
          refine wpAnyH_take (i := 12) (v := ?v94x12) rfl (by kernel_rfl) (by kernel_rfl) (by kernel_rfl) (fun _ _ _ h => h) (Or.inl ⟨by rfl, ?hy94x12⟩) (by assumption) ?rest94x12
          case hy94x12 => intro w hSw; go_simp <;> with_reducible rfl
          simp only [Act.put, List.getElem_toArray, List.getElem_cons_zero, List.getElem_cons_succ, List.setIfInBounds_toArray, List.set_cons_zero, List.set_cons_succ]
          refine wpAnyH_take (i := 13) (v := ?v95x13) rfl (by kernel_rfl) (by kernel_rfl) (by kernel_rfl) (fun _ _ _ h => h) (Or.inl ⟨by rfl, ?hy95x13⟩) (by assumption) ?rest95x13
          case hy95x13 => intro w hSw; go_simp <;> with_reducible rfl
          simp only [Act.put, List.getElem_toArray, List.getElem_cons_zero, List.getElem_cons_succ, List.setIfInBounds_toArray, List.set_cons_zero, List.set_cons_succ]
          refine wpAnyH_take (i := 14) (v := (.slice (a' p) (L' p) (c' p))) rfl (by kernel_rfl) (by kernel_rfl) (by kernel_rfl) (fun _ _ _ h => h) (Or.inl ⟨by rfl, ?hy96x14⟩) (by assumption) ?rest96x14
          case hy96x14 => intro w hSw; have s1 := (((unhide HC) _ hSw).1 p hlp).1.2; go_simp <;> with_reducible rfl
          simp only [Act.put, List.getElem_toArray, List.getElem_cons_zero, List.getElem_cons_succ, List.setIfInBounds_toArray, List.set_cons_zero, List.set_cons_succ]
          refine wpAnyH_take (i := 15) (v := ?v97x15) rfl (by kernel_rfl) (by kernel_rfl) (by kernel_rfl) (fun _ _ _ h => h) (Or.inl ⟨by rfl, ?hy97x15⟩) (by assumption) ?rest97x15
          case hy97x15 => intro w hSw; go_simp <;> with_reducible rfl
          simp only [Act.put, List.getElem_toArray, List.getElem_cons_zero, List.getElem_cons_succ, List.setIfInBounds_toArray, List.set_cons_zero, List.set_cons_succ]
          refine wpAnyH_take (i := 16) (v := ?v98x16) rfl (by kernel_rfl) (by kernel_rfl) (by kernel_rfl) (fun _ _ _ h => h) (Or.inl ⟨by rfl, ?hy98x16⟩) (by assumption) ?rest98x16
          case hy98x16 => intro w hSw; go_simp <;> with_reducible rfl
          simp only [Act.put, List.getElem_toArray, List.getElem_cons_zero, List.getElem_cons_succ, List.setIfInBounds_toArray, List.set_cons_zero, List.set_cons_succ]
          refine wpAnyH_take (i := 17) (v := ?v99x17) rfl (by kernel_rfl) (by kernel_rfl) (by kernel_rfl) (fun _ _ _ h => h) (Or.inl ⟨by rfl, ?hy99x17⟩) (by assumption) ?rest99x17
          case hy99x17 => intro w hSw; go_simp <;> with_reducible rfl
          simp only [Act.put, List.getElem_toArray, List.getElem_cons_zero, List.getElem_cons_succ, List.setIfInBounds_toArray, List.set_cons_zero, List.set_cons_succ]
          refine wpAnyH_take (i := 18) (v := (.slice (b' p) (M' p) (d' p))) rfl (by kernel_rfl) (by kernel_rfl) (by kernel_rfl) (fun _ _ _ h => h) (Or.inl ⟨by rfl, ?hy100x18⟩) (by assumption) ?rest100x18
          case hy100x18 => intro w hSw; have s1 := (((unhide HC) _ hSw).1 p hlp).2.2; go_simp <;> with_reducible rfl
          simp only [Act.put, List.getElem_toArray, List.getElem_cons_zero, List.getElem_cons_succ, List.setIfInBounds_toArray, List.set_cons_zero, List.set_cons_succ]
          refine wpAnyH_ready (rs := [19]) (by kernel_rfl) (by simp) ?_
          refine AllReadyH.cons rfl (fun K hK => ?_) AllReadyH.nil
          go_simp
          refine (unhide H2 _ (unhide HB1)).mono ?_
          rintro e w2 ⟨rfl, hb2⟩
          refine hK _ _ ((unhide HB1).trans (hb2.mono (unhide HB1).size)) ?_
          clear hK hHeld
          have HB2 : Hid (Below Y.heap.size Y w2) := ((unhide HB1).trans (hb2.mono (unhide HB1).size))
          clear hb2
          intro hHeld
          refine wpAnyH_take (i := 20) (v := ?v101x20) rfl (by kernel_rfl) (by kernel_rfl) (by kernel_rfl) (fun _ _ _ h => h) (Or.inl ⟨by rfl, ?hy101x20⟩) (by assumption) ?rest101x20
          case hy101x20 => intro w hSw; go_simp <;> with_reducible rfl
          simp only [Act.put, List.getElem_toArray, List.getElem_cons_zero, List.getElem_cons_succ, List.setIfInBounds_toArray, List.set_cons_zero, List.set_cons_succ]
          refine wpAnyH_take (i := 21) (v := ?v102x21) rfl (by kernel_rfl) (by kernel_rfl) (by kernel_rfl) (fun _ _ _ h => h) (Or.inl ⟨by rfl, ?hy102x21⟩) (by assumption) ?rest102x21
          case hy102x21 => intro w hSw; go_simp <;> with_reducible rfl
          simp only [Act.put, List.getElem_toArray, List.getElem_cons_zero, List.getElem_cons_succ, List.setIfInBounds_toArray, List.set_cons_zero, List.set_cons_succ]
          refine wpAnyH_done (by kernel_rfl) ?_ _
          go_wp2
          go_ret
          refine ⟨retBool ?_, (unhide HBY).trans ((unhide HB2).mono (unhide HBY).size)⟩
          rw [← unhide HRR]
          have h := sameA_mono (show p + 1 ≤ 8 by omega) (show sameA A B (p + 1) = false by simp [sameA, (unhide HQ).2])
          simp [sameF, h]
        | true =>
          go_wp2
          refine wp_region_held_drew (S := fun x => Below Y.heap.size Y x) (by kernel_rfl) ((unhide HBR).drew) (fun hHeld => ?_)
          refine wpAnyH_take (i := 0) (v := ?v103x0) rfl (by kernel_rfl) (by kernel_rfl) (by kernel_rfl) (fun _ _ _ h => h) (Or.inl ⟨by rfl, ?hy103x0⟩) (by assumption) ?rest103x0
          case hy103x0 => intro w hSw; go_simp <;> with_reducible rfl
          simp only [Act.put, List.getElem_toArray, List.getElem_cons_zero, List.setIfInBounds_toArray, List.set_cons_zero, List.set_cons_succ]
          refine wpAnyH_take (i := 1) (v := ?v104x1) rfl (by kernel_rfl) (by kernel_rfl) (by kernel_rfl) (fun _ _ _ h => h) (Or.inl ⟨by rfl, ?hy104x1⟩) (by assumption) ?rest104x1
          case hy104x1 => intro w hSw; go_simp <;> with_reducible rfl
          simp only [Act.put, List.getElem_toArray, List.getElem_cons_zero, List.getElem_cons_succ, List.setIfInBounds_toArray, List.set_cons_zero, List.set_cons_succ]
          refine wpAnyH_take (i := 2) (v := ?v105x2) rfl (by kernel_rfl) (by kernel_rfl) (by kernel_rfl) (fun _ _ _ h => h) (Or.inl ⟨by rfl, ?hy105x2⟩) (by assumption) ?rest105x2
          case hy105x2 => intro w hSw; go_simp <;> with_reducible rfl
          simp only [Act.put, List.getElem_toArray, List.getElem_cons_zero, List.getElem_cons_succ, List.setIfInBounds_toArray, List.set_cons_zero, List.set_cons_succ]
          refine wpAnyH_take (i := 3) (v := (.slice (a p) (L p) (c p))) rfl (by kernel_rfl) (by kernel_rfl) (by kernel_rfl) (fun _ _ _ h => h) (Or.inl ⟨by rfl, ?hy106x3⟩) (by assumption) ?rest106x3
          case hy106x3 => intro w hSw; have s1 := (((unhide HC) _ hSw).1 p hlp).1.1; go_simp <;> with_reducible rfl
          simp only [Act.put, List.getElem_toArray, List.getElem_cons_zero, List.getElem_cons_succ, List.setIfInBounds_toArray, List.set_cons_zero, List.set_cons_succ]
          refine wpAnyH_take (i := 4) (v := ?v107x4) rfl (by kernel_rfl) (by kernel_rfl) (by kernel_rfl) (fun _ _ _ h => h) (Or.inl ⟨by rfl, ?hy107x4⟩) (by assumption) ?rest107x4
          case hy107x4 => intro w hSw; go_simp <;> with_reducible rfl
          simp only [Act.put, List.getElem_toArray, List.getElem_cons_zero, List.getElem_cons_succ, List.setIfInBounds_toArray, List.set_cons_zero, List.set_cons_succ]
          refine wpAnyH_take (i := 5) (v := ?v108x5) rfl (by kernel_rfl) (by kernel_rfl) (by kernel_rfl) (fun _ _ _ h => h) (Or.inl ⟨by rfl, ?hy108x5⟩) (by assumption) ?rest108x5
          case hy108x5 => intro w hSw; go_simp <;> with_reducible rfl
          simp only [Act.put, List.getElem_toArray, List.getElem_cons_zero, List.getElem_cons_succ, List.setIfInBounds_toArray, List.set_cons_zero, List.set_cons_succ]
          refine wpAnyH_take (i := 6) (v := ?v109x6) rfl (by kernel_rfl) (by kernel_rfl) (by kernel_rfl) (fun _ _ _ h => h) (Or.inl ⟨by rfl, ?hy109x6⟩) (by assumption) ?rest109x6
          case hy109x6 => intro w hSw; go_simp <;> with_reducible rfl
          simp only [Act.put, List.getElem_toArray, List.getElem_cons_zero, List.getElem_cons_succ, List.setIfInBounds_toArray, List.set_cons_zero, List.set_cons_succ]
          refine wpAnyH_take (i := 7) (v := (.slice (b p) (M p) (d p))) rfl (by kernel_rfl) (by kernel_rfl) (by kernel_rfl) (fun _ _ _ h => h) (Or.inl ⟨by rfl, ?hy110x7⟩) (by assumption) ?rest110x7
          case hy110x7 => intro w hSw; have s1 := (((unhide HC) _ hSw).1 p hlp).2.1; go_simp <;> with_reducible rfl
          simp only [Act.put, List.getElem_toArray, List.getElem_cons_zero, List.getElem_cons_succ, List.setIfInBounds_toArray, List.set_cons_zero, List.set_cons_succ]
          refine wpAnyH_ready (rs := [8]) (by kernel_rfl) (by simp) ?_
          refine AllReadyH.cons rfl (fun K hK => ?_) AllReadyH.nil
          go_simp
          refine (unhide H1 _ ((unhide HBR).drew)).mono ?_
          rintro e w1 ⟨rfl, hb1⟩
          refine hK _ _ ((unhide HBR).drew.trans (hb1.mono (unhide HBR).drew.size)) ?_
          clear hK hHeld
          have HB1 : Hid (Below Y.heap.size Y w1) := ((unhide HBR).drew.trans (hb1.mono (unhide HBR).drew.size))
          clear hb1
          intro hHeld
          refine wpAnyH_take (i := 9) (v := ?v111x9) rfl (by kernel_rfl) (by kernel_rfl) (by kernel_rfl) (fun _ _ _ h => h) (Or.inl ⟨by rfl, ?hy111x9⟩) (by assumption) ?rest111x9
          case hy111x9 => intro w hSw; go_simp <;> with_reducible rfl
          simp only [Act.put, List.getElem_toArray, List.getElem_cons_zero, List.getElem_cons_succ, List.setIfInBounds_toArray, List.set_cons_zero, List.set_cons_succ]
          refine wpAnyH_take (i := 10) (v := ?v112x10) rfl (by kernel_rfl) (by kernel_rfl) (by kernel_rfl) (fun _ _ _ h => h) (Or.inl ⟨by rfl, ?hy112x10⟩) (by assumption) ?rest112x10
          case hy112x10 => intro w hSw; go_simp <;> with_reducible rfl
          simp only [Act.put, List.getElem_toArray, List.getElem_cons_zero, List.getElem_cons_succ, List.setIfInBounds_toArray, List.set_cons_zero, List.set_cons_succ]
          refine wpAnyH_take (i := 11) (v := ?v113x11) rfl (by kernel_rfl) (by kernel_rfl) (by kernel_rfl) (fun _ _ _ h => h) (Or.inl ⟨by rfl, ?hy113x11⟩) (by assumption) ?rest113x11
          case hy113x11 => intro w hSw; go_simp <;> with_reducible rfl
          simp only [Act.put, List.getElem_toArray, List.getElem_cons_zero, List.getElem_cons_succ, List.setIfInBounds_toArray, List.set_cons_zero, List.set_cons_succ]
          refine wpAnyH_take (i := 12) (v := ?v114x12) rfl (by kernel_rfl) (by kernel_rfl) (by kernel_rfl) (fun _ _ _ h => h) (Or.inl ⟨by rfl, ?hy114x12⟩) (by assumption) ?rest114x12
          case hy114x12 => intro w hSw; go_simp <;> with_reducible rfl
          simp only [Act.put, List.getElem_toArray, List.getElem_cons_zero, List.getElem_cons_succ, List.setIfInBounds_toArray, List.set_cons_zero, List.set_cons_succ]
          refine wpAnyH_take (i := 13) (v := ?v115x13) rfl (by kernel_rfl) (by kernel_rfl) (by kernel_rfl) (fun _ _ _ h => h) (Or.inl ⟨by rfl, ?hy115x13⟩) (by assumption) ?rest115x13
          case hy115x13 => intro w hSw; go_simp <;> with_reducible rfl
          simp only [Act.put, List.getElem_toArray, List.getElem_cons_zero, List.getElem_cons_succ, List.setIfInBounds_toArray, List.set_cons_zero, List.set_cons_succ]
          refine wpAnyH_take (i := 14) (v := (.slice (a' p) (L' p) (c' p))) rfl (by kernel_rfl) (by kernel_rfl) (by kernel_rfl) (fun _ _ _ h => h) (Or.inl ⟨by rfl, ?hy116x14⟩) (by assumption) ?rest116x14
          case hy116x14 => intro w hSw; have s1 := (((unhide HC) _ hSw).1 p hlp).1.2; go_simp <;> with_reducible rfl
          simp only [Act.put, List.getElem_toArray, List.getElem_cons_zero, List.getElem_cons_succ, List.setIfInBounds_toArray, List.set_cons_zero, List.set_cons_succ]
          refine wpAnyH_take (i := 15) (v := ?v117x15) rfl (by kernel_rfl) (by kernel_rfl) (by kernel_rfl) (fun _ _ _ h => h) (Or.inl ⟨by rfl, ?hy117x15⟩) (by assumption) ?rest117x15
          case hy117x15 => intro w hSw; go_simp <;> with_reducible rfl
          simp only [Act.put, List.getElem_toArray, List.getElem_cons_zero, List.getElem_cons_succ, List.setIfInBounds_toArray, List.set_cons_zero, List.set_cons_succ]
          refine wpAnyH_take (i := 16) (v := ?v118x16) rfl (by kernel_rfl) (by kernel_rfl) (by kernel_rfl) (fun _ _ _ h => h) (Or.inl ⟨by rfl, ?hy118x16⟩) (by assumption) ?rest118x16
          case hy118x16 => intro w hSw; go_simp <;> with_reducible rfl
          simp only [Act.put, List.getElem_toArray, List.getElem_cons_zero, List.getElem_cons_succ, List.setIfInBounds_toArray, List.set_cons_zero, List.set_cons_succ]
          refine wpAnyH_take (i := 17) (v := ?v119x17) rfl (by kernel_rfl) (by kernel_rfl) (by kernel_rfl) (fun _ _ _ h => h) (Or.inl ⟨by rfl, ?hy119x17⟩) (by assumption) ?rest119x17
          case hy119x17 => intro w hSw; go_simp <;> with_reducible rfl
          simp only [Act.put, List.getElem_toArray, List.getElem_cons_zero, List.getElem_cons_succ, List.setIfInBounds_toArray, List.set_cons_zero, List.set_cons_succ]
          refine wpAnyH_take (i := 18) (v := (.slice (b' p) (M' p) (d' p))) rfl (by kernel_rfl) (by kernel_rfl) (by kernel_rfl) (fun _ _ _ h => h) (Or.inl ⟨by rfl, ?hy120x18⟩) (by assumption) ?rest120x18
          case hy120x18 => intro w hSw; have s1 := (((unhide HC) _ hSw).1 p hlp).2.2; go_simp <;> with_reducible rfl
          simp only [Act.put, List.getElem_toArray, List.getElem_cons_zero, List.getElem_cons_succ, List.setIfInBounds_toArray, List.set_cons_zero, List.set_cons_succ]
          refine wpAnyH_ready (rs := [19]) (by kernel_rfl) (by simp) ?_
          refine AllReadyH.cons rfl (fun K hK => ?_) AllReadyH.nil
          go_simp
          refine (unhide H2 _ (unhide HB1)).mono ?_
          rintro e w2 ⟨rfl, hb2⟩
          refine hK _ _ ((unhide HB1).trans (hb2.mono (unhide HB1).size)) ?_
          clear hK hHeld
          have HB2 : Hid (Below Y.heap.size Y w2) := ((unhide HB1).trans (hb2.mono (unhide HB1).size))
          clear hb2
          intro hHeld
          refine wpAnyH_take (i := 20) (v := ?v121x20) rfl (by kernel_rfl) (by kernel_rfl) (by kernel_rfl) (fun _ _ _ h => h) (Or.inl ⟨by rfl, ?hy121x20⟩) (by assumption) ?rest121x20
          case hy121x20 => intro w hSw; go_simp <;> with_reducible rfl
          simp only [Act.put, List.getElem_toArray, List.getElem_cons_zero, List.getElem_cons_succ, List.setIfInBounds_toArray, List.set_cons_zero, List.set_cons_succ]
          refine wpAnyH_take (i := 21) (v := ?v122x21) rfl (by kernel_rfl) (by kernel_rfl) (by kernel_rfl) (fun _ _ _ h => h) (Or.inl ⟨by rfl, ?hy122x21⟩) (by assumption) ?rest122x21
          case hy122x21 => intro w hSw; go_simp <;> with_reducible rfl
          simp only [Act.put, List.getElem_toArray, List.getElem_cons_zero, List.getElem_cons_succ, List.setIfInBounds_toArray, List.set_cons_zero, List.set_cons_succ]
          refine wpAnyH_done (by kernel_rfl) ?_ _
          go_wp2
          go_roundw
          case rel => exact ⟨p + 1, by omega, by go_num, by simp [sameA, unhide HSA, (unhide HQ).1, (unhide HQ).2], unhide HB2⟩
          case measure => simp [intOf]; omega
    · obtain rfl : p = 8 := by omega
      obtain ⟨_, s16, s17, t16, t17⟩ := (unhide HC) wr (unhide HBR)
      obtain ⟨q1, hq1⟩ : ∃ q, decide (A.ps = B.ps) = q := ⟨_, rfl⟩
      obtain ⟨q2, hq2⟩ : ∃ q, decide (A.ts = B.ts) = q := ⟨_, rfl⟩
      have HQ := hide (And.intro hq1 hq2)
      have H1 : Hid (Calls Try.prog 35 #[.slice ap np cp, .slice aq nq cq] wr fun e w' => e = .returned (.bool q1) ∧ Below wr.heap.size wr w') := hq1 ▸ sints_any ((unhide HS) wr (unhide HBR)).2.1 ((unhide HS) wr (unhide HBR)).2.2.2.1
      have H2 : Hid (∀ z, Below Y.heap.size Y z → Calls Try.prog 35 #[.slice at' nt ct, .slice as' ns cs'] z fun e w' => e = .returned (.bool q2) ∧ Below z.heap.size z w') := fun z hz => hq2 ▸ sints_any ((unhide HS) z hz).2.2.1 ((unhide HS) z hz).2.2.2.2
      clear hq1 hq2
      cases q1 with
      | false =>
        go_wp2_with (go_at_call 35; refine (unhide H1).mono ?_; rintro e w1 ⟨rfl, hb1⟩; have HB1 : Hid (Below Y.heap.size Y w1) := (unhide HBR).trans (hb1.mono (unhide HBR).size); clear hb1 H1)
        go_ret
        refine ⟨retBool ?_, (unhide HBY).trans ((unhide HB1).mono (unhide HBY).size)⟩
        rw [← unhide HRR]
        simp [sameF, (unhide HQ).1]
      | true =>
        go_wp2_with (first | (go_at_call_of 35 (Value.slice ap np cp); refine (unhide H1).mono ?_; rintro e w1 ⟨rfl, hb1⟩; have HB1 : Hid (Below Y.heap.size Y w1) := (unhide HBR).trans (hb1.mono (unhide HBR).size); have r17 := ((unhide HC) w1 (unhide HB1)).2.2.1; have r18 := ((unhide HC) w1 (unhide HB1)).2.2.2.2; clear hb1 H1) | (go_at_call 35; refine ((unhide H2) _ (unhide HB1)).mono ?_; rintro e w2 ⟨rfl, hb2⟩; have HB2 : Hid (Below Y.heap.size Y w2) := (unhide HB1).trans (hb2.mono (unhide HB1).size); clear hb2 H2))
        go_ret
        refine ⟨retBool ?_, (unhide HBY).trans ((unhide HB2).mono (unhide HBY).size)⟩
        rw [← unhide HRR]
        simp [sameF, unhide HSA, (unhide HQ).1, (unhide HQ).2]
end Go.Proofs.Ytibjhjkeflbghaa

/- MayRead, MayWrite. -/
namespace Go.Proofs.Ytibjhjkeflbghaa
open Go.RowKit
set_option maxRecDepth 100000

set_option maxHeartbeats 800000 in
theorem mayRead_any {x : Tx} {w : World} (hx : SeesX w x) (k0 k1 : Int) : Calls Try.prog 18 #[xV x, .agg #[.int .i32 k0, .int .i64 k1]] w fun e w' => e = .returned (.bool (decide ((k0, k1) ∈ x.rs))) ∧ Below w.heap.size w w' := by
  have HH : Hid (∀ z, Below w.heap.size w z → Calls Try.prog 44 #[x.rv, .agg #[.int .i32 k0, .int .i64 k1]] z fun e w' => e = .returned (.bool (decide ((k0, k1) ∈ x.rs))) ∧ Below z.heap.size z w') := fun z hz => (has_any (hx.rs.below kC_len hz) k0 k1).mono fun _ _ ⟨h1, h2⟩ => ⟨h1, h2.below⟩
  obtain ⟨⟨ac, nc, cc, hc⟩, ⟨aa, na, ca, ha⟩⟩ := And.intro hx.shc hx.sha
  obtain ⟨ar, cr, hr⟩ := hx.rs.shape
  obtain ⟨aw, cw, hw⟩ := hx.ws.shape
  obtain ⟨nr, hnr⟩ : ∃ z, x.rs.length = z := ⟨_, rfl⟩
  obtain ⟨nw, hnw⟩ : ∃ z, x.ws.length = z := ⟨_, rfl⟩
  rw [hnr] at hr
  rw [hnw] at hw
  obtain ⟨d, hd⟩ : ∃ d, decide ((k0, k1) ∈ x.rs) = d := ⟨_, rfl⟩
  rw [hd] at HH ⊢
  unfold xV
  rw [hc, ha, hr, hw]
  rw [hr] at HH
  obtain ⟨sx, hsx⟩ : ∃ z, x.s = z := ⟨_, rfl⟩
  obtain ⟨rx, hrx⟩ : ∃ z, x.r = z := ⟨_, rfl⟩
  rw [hsx, hrx]
  clear hx hc ha hr hw hnr hnw hd hsx hrx
  have HB : Hid (Below w.heap.size w ((w.alloc (.cells #[.int .i64 sx, .int .i64 rx, .slice ac nc cc, .slice aa na ca, .slice ar nr cr, .slice aw nw cw] 26)).alloc (.cells #[.int .i32 k0, .int .i64 k1] 37))) := (below_box _).alloc (by simp) _
  go_enter Try.func18, Try.ntmps18
  go_wp2_with (go_at_call 44; refine ((unhide HH) _ (unhide HB)).mono ?_; rintro e w1 ⟨rfl, hb1⟩; have HF := hide ((unhide HB).trans (hb1.mono (unhide HB).size)); clear hb1)
  go_ret
  exact ⟨rfl, unhide HF⟩
set_option maxHeartbeats 800000 in
theorem mayWrite_any {x : Tx} {w : World} (hx : SeesX w x) (k0 k1 : Int) : Calls Try.prog 20 #[xV x, .agg #[.int .i32 k0, .int .i64 k1]] w fun e w' => e = .returned (.bool (decide ((k0, k1) ∈ x.ws))) ∧ Below w.heap.size w w' := by
  have HH : Hid (∀ z, Below w.heap.size w z → Calls Try.prog 44 #[x.wv, .agg #[.int .i32 k0, .int .i64 k1]] z fun e w' => e = .returned (.bool (decide ((k0, k1) ∈ x.ws))) ∧ Below z.heap.size z w') := fun z hz => (has_any (hx.ws.below kC_len hz) k0 k1).mono fun _ _ ⟨h1, h2⟩ => ⟨h1, h2.below⟩
  obtain ⟨⟨ac, nc, cc, hc⟩, ⟨aa, na, ca, ha⟩⟩ := And.intro hx.shc hx.sha
  obtain ⟨ar, cr, hr⟩ := hx.rs.shape
  obtain ⟨aw, cw, hw⟩ := hx.ws.shape
  obtain ⟨nr, hnr⟩ : ∃ z, x.rs.length = z := ⟨_, rfl⟩
  obtain ⟨nw, hnw⟩ : ∃ z, x.ws.length = z := ⟨_, rfl⟩
  rw [hnr] at hr
  rw [hnw] at hw
  obtain ⟨d, hd⟩ : ∃ d, decide ((k0, k1) ∈ x.ws) = d := ⟨_, rfl⟩
  rw [hd] at HH ⊢
  unfold xV
  rw [hc, ha, hr, hw]
  rw [hw] at HH
  obtain ⟨sx, hsx⟩ : ∃ z, x.s = z := ⟨_, rfl⟩
  obtain ⟨rx, hrx⟩ : ∃ z, x.r = z := ⟨_, rfl⟩
  rw [hsx, hrx]
  clear hx hc ha hr hw hnr hnw hd hsx hrx
  have HB : Hid (Below w.heap.size w ((w.alloc (.cells #[.int .i64 sx, .int .i64 rx, .slice ac nc cc, .slice aa na ca, .slice ar nr cr, .slice aw nw cw] 26)).alloc (.cells #[.int .i32 k0, .int .i64 k1] 37))) := (below_box _).alloc (by simp) _
  go_enter Try.func20, Try.ntmps20
  go_wp2_with (go_at_call 44; refine ((unhide HH) _ (unhide HB)).mono ?_; rintro e w1 ⟨rfl, hb1⟩; have HF := hide ((unhide HB).trans (hb1.mono (unhide HB).size)); clear hb1)
  go_ret
  exact ⟨rfl, unhide HF⟩
theorem rhas_c {v : Value} {l : List Ky} {w : World} (hs : SeesL kC 2 w v l) (k0 k1 : Int) : Calls Try.prog 19 #[v, .agg #[.int .i32 k0, .int .i64 k1]] w fun e w' => e = .returned (.bool (decide ((k0, k1) ∈ l))) ∧ Below w.heap.size w w' :=
  (rhas_any hs k0 k1).mono fun _ _ ⟨h1, h2⟩ => ⟨h1, h2.below⟩
/-- What Of tells is seen. -/
theorem FtV.sees {B : Nat} {f f' : Nat → List Ky} {a : Nat → Option Addr} {L c : Nat → Nat} {a' : Nat → Option Addr} {L' c' : Nat → Nat} {pv tv : Value} {pl tl : List Int} {z : World} (h : FtV B f f' a L c a' L' c' pv tv pl tl z) : SeesF z (ftC a L c a' L' c' pv tv) ⟨f, f', pl, tl⟩ :=
  ⟨a, L, c, a', L', c', pv, tv, rfl, fun p hp => (own_sees kC_len (by decide) (h.rd.2.1 p _ (litR_at _ _ _ hp))).2, fun p hp => (own_sees kC_len (by decide) (h.wt.2.1 p _ (litR_at _ _ _ hp))).2, (own_sees nC_len (by decide) h.ps).2, (own_sees nC_len (by decide) h.ts).2⟩
/-- What a transaction may touch, of so many partitions. -/
def ofP (x : Tx) (n : Int) : Fp := ⟨inP n (srt x.rs), inP n (srt x.ws), ptsL (fun p => (inP n (srt x.rs) p).length) (fun p => (inP n (srt x.ws) p).length), actL (fun p => (inP n (srt x.rs) p).length) (fun p => (inP n (srt x.ws) p).length)⟩
/-- A footprint's value is one of eighteen cells that are cells. -/
def Ft18 (V : Array Value) : Prop := V.size = 18 ∧ V.all (·.oneCell') = true
theorem of_b {x : Tx} {w : World} (n : Int) (hx : SeesX w x) : Calls Try.prog 11 #[xV x, .int .i64 n] w fun e w' => ∃ V, e = .returned (.agg V) ∧ SeesF w' V (ofP x n) ∧ Ft18 V ∧ Below w.heap.size w w' :=
  (of_any n hx).mono fun _ _ ⟨a, c, a', c', pv, tv, he, hv, hb⟩ => ⟨_, he, hv.sees, ⟨rfl, by
    obtain ⟨pa, pc, e1⟩ := own_shape hv.ps
    obtain ⟨ta, tc, e2⟩ := own_shape hv.ts
    rw [e1, e2]
    exact ft_one _ _ _ _ _ _⟩, hb⟩
end Go.Proofs.Ytibjhjkeflbghaa
