/- Ready, New, rise. -/
import Derived.Test.YteenbebpdibbcaaS3
namespace Go.Proofs.Yteenbebpdibbcaa
open Go.RowKit
set_option maxRecDepth 100000

abbrev Lk := Ky × Bool
def lC (x : Lk) : List Value := [.int .i32 x.1.1, .int .i64 x.1.2, .bool x.2]
theorem lC_len (x : Lk) : (lC x).length = 3 := rfl
theorem lC_one (x : Lk) : ∀ u ∈ lC x, u.oneCell' = true := by
  intro u hu
  simp only [lC, List.mem_cons, List.not_mem_nil, or_false] at hu
  rcases hu with rfl | rfl | rfl <;> rfl
theorem SeesL.at {α : Type} [Inhabited α] {c : α → List Value} {k : Nat} {w : World} {v : Value} {l : List α} (h : SeesL c k w v l) : ∃ ao cap gb ob, v = .slice ao l.length cap ∧ (0 < l.length → ao = some ⟨gb, ob, none⟩) ∧ ∀ t, t < l.length → ∀ j, j < k → w.cell? ⟨gb, ob + t * k + j, none⟩ = (c (l.getD t default))[j]? := by
  obtain ⟨ao, cap, gb, ob, h1, _, _, _, h5, h6⟩ := h
  refine ⟨ao, cap, gb, ob, h1, h5, fun t ht j hj => h6 t _ ?_ j hj⟩
  simp [List.getD, ht]
theorem lock_cells {y : World} {v : Value} {l : List Lk} (hs : SeesL lC 3 y v l) {ao : Option Addr} {n cap : Nat} (hv : v = .slice ao n cap) {t : Nat} (ht : t < l.length) : ∃ gb ob, ao = some ⟨gb, ob, none⟩ ∧ y.cell? ⟨gb, ob + t * 3 + 0, none⟩ = some (.int .i32 (l.getD t default).1.1) ∧ y.cell? ⟨gb, ob + t * 3 + 1, none⟩ = some (.int .i64 (l.getD t default).1.2) ∧ y.cell? ⟨gb, ob + t * 3 + 2, none⟩ = some (.bool (l.getD t default).2) := by
  obtain ⟨ao', cap', gb, ob, hv', hao, hcl⟩ := SeesL.at hs
  rw [hv] at hv'
  simp only [Value.slice.injEq] at hv'
  obtain ⟨rfl, rfl, rfl⟩ := hv'
  exact ⟨gb, ob, hao (by omega), hcl t ht 0 (by omega), hcl t ht 1 (by omega), hcl t ht 2 (by omega)⟩

/-- Who has asked, by a name. -/
def fnd (S : Sto) (k : Ky) : Option Nat := ((S.P k).bind S.sp).map Sp.of
def rdyS (S : Sto) (k : Ky) : Bool := match (fnd S k).bind S.ak with
  | none => false
  | some a => decide (a.lacks = 0)
section
variable {B : Nat → Prop} {lb mq mp : Nat} {w : World} {S : Sto}
set_option maxHeartbeats 1000000 in
theorem ready_any (h : Mem B lb mq mp w S) (a b : Int) (hk : I.OkK (a, b)) (hs : ∀ p, S.P (a, b) = some p → ∃ s, S.sp p = some s) (ha : ∀ p, fnd S (a, b) = some p → ∃ x, S.ak p = some x) :
    Calls Try.prog 21 #[PN lb, .agg #[.int .i64 a, .int .i64 b]] w fun e w' => e = .returned (.bool (rdyS S (a, b))) ∧ Below w.heap.size w w' := by
  obtain ⟨W1, hW1⟩ : ∃ z, w.alloc (.cells #[.int .i64 a, .int .i64 b] 29) = z := ⟨_, rfl⟩
  have b1 : Below w.heap.size w W1 := hW1 ▸ below_box _
  have m1 := h.below b1
  have hc : W1.heap[w.heap.size]? = some (.cells #[.int .i64 a, .int .i64 b] 29) := by rw [← hW1]; exact heap_alloc_new w _
  have c0 : W1.cell? ⟨w.heap.size, 0, none⟩ = some (.int .i64 a) := cell_at hc
  have c1 : W1.cell? ⟨w.heap.size, 1, none⟩ = some (.int .i64 b) := cell_at hc
  have HF := hide (find_any m1 a b hk hs)
  have hf0 : ((S.P (a, b)).bind S.sp).map Sp.of = fnd S (a, b) := rfl
  cases hf : fnd S (a, b) with
  | none =>
    have hr : rdyS S (a, b) = false := by unfold rdyS; rw [hf]; rfl
    rw [hr]
    rw [hf0, hf] at HF
    simp only [PO] at HF
    have HB := hide b1
    clear h m1 hs ha b1 hc hf0
    go_enter Try.func21, Try.ntmps21
    go_wp2_with (first | rw [hW1] | (go_at_call 59; refine (unhide HF).mono ?_; rintro e w' ⟨rfl, hb⟩))
    go_ret
    exact ⟨rfl, (unhide HB).trans (hb.mono (unhide HB).size)⟩
  | some p =>
    obtain ⟨x, hx⟩ := ha p hf
    have hr : rdyS S (a, b) = decide (x.lacks = 0) := by unfold rdyS; rw [hf]; show (match S.ak p with | none => _ | some a => _) = _; rw [hx]
    rw [hr]
    rw [hf0, hf] at HF
    simp only [PO] at HF
    have HB := hide b1
    have HR : Hid (∀ w', Below W1.heap.size W1 w' → w'.cell? ⟨p, 4, none⟩ = some (.int .i64 x.lacks)) := fun w' hb => (m1.below hb).rd_ak hx 4
    clear h m1 hs ha b1 hc hf0
    go_enter Try.func21, Try.ntmps21
    go_wp2_with (first | rw [hW1] | (go_at_call 59; refine (unhide HF).mono ?_; rintro e w' ⟨rfl, hb⟩; have hr1 := unhide HR w' hb))
    go_ret
    exact ⟨rfl, (unhide HB).trans (hb.mono (unhide HB).size)⟩
end
def S0 : Sto := ⟨none, none, 0, fun _ => none, fun _ => none, fun _ => none, fun _ => none, fun _ => none, fun _ => none⟩
theorem new_any (w : World) : Calls Try.prog 8 #[] w fun e w' => ∃ lb mq mp, e = .returned (PN lb) ∧ Mem (fun j => w.heap.size ≤ j) lb mq mp w' S0 ∧ Below w.heap.size w w' := by
  obtain ⟨y1, hy1⟩ : ∃ y, w.alloc (.map #[] 0) = y := ⟨_, rfl⟩
  obtain ⟨y2, hy2⟩ : ∃ y, y1.alloc (.map #[] 0) = y := ⟨_, rfl⟩
  have hm1 : (Instr.makeMap 68 none).run Try.prog w = .ok (.map (some w.heap.size)) y1 := by rw [← hy1]; rfl
  have hm2 : (Instr.makeMap 72 none).run Try.prog y1 = .ok (.map (some y1.heap.size)) y2 := by rw [← hy2]; rfl
  have z1 : y1.heap.size = w.heap.size + 1 := by rw [← hy1]; simp
  have z2 : y2.heap.size = w.heap.size + 2 := by rw [← hy2]; simp [z1]
  obtain ⟨y3, hy3⟩ : ∃ y, y2.alloc (.cells #[.map (some w.heap.size), nilP, nilP, .map (some y1.heap.size), .int .i64 0] 74) = y := ⟨_, rfl⟩
  have b1 : Below w.heap.size w y1 := hy1 ▸ below_box _
  have b2 : Below y1.heap.size y1 y2 := hy2 ▸ below_box _
  have b3 : Below y2.heap.size y2 y3 := hy3 ▸ below_box _
  have m1 : MapS y3 w.heap.size fun _ => none := ((hy1 ▸ MapS.start w : MapS y1 w.heap.size fun _ => none).below b2).below b3
  have m2 : I.MapS y3 y1.heap.size fun _ => none := (hy2 ▸ I.MapS.start y1 : I.MapS y2 y1.heap.size fun _ => none).below b3
  have hM : Mem (fun j => w.heap.size ≤ j) y2.heap.size w.heap.size y1.heap.size y3 S0 :=
    ⟨(by rw [← hy3]; exact heap_alloc_new y2 _), fun _ _ h => (by cases h), fun _ _ h => (by cases h), fun _ _ h => (by cases h), fun _ _ h => (by cases h), fun _ _ h => (by cases h), fun _ _ _ _ _ h => (by cases h), m1, m2, by omega, Nat.le_refl _, by omega, by omega⟩
  have hB := hide (And.intro hM ((b1.trans (b2.mono b1.size)).trans (b3.mono (by omega))))
  rw [z1, z2] at hB
  rw [z1] at hy3 hm2
  clear m1 m2 hM b1 b2 b3
  go_enter Try.func8, Try.ntmps8
  go_wp2
  go_ret
  exact ⟨_, _, _, rfl, (unhide hB).1, (unhide hB).2⟩
theorem below_rd {w w' : World} (h : Below w.heap.size w w') {p : Addr} {x : Value} (hc : w.cell? p = some x) : w'.cell? p = some x := (World.cell?_of_block (h.block _ (World.block_lt_of_cell? w p hc))).trans hc
/-- Locks whose keys rise, each once. -/
def RiseL (l : List Lk) : Prop := ∀ i, i + 1 < l.length → ltK (l.getD i default).1 (l.getD (i + 1) default).1
def RiseE (l : List Lk) (e : Ending) : Prop := ∃ b, e = .returned (.bool b) ∧ (b = true ↔ RiseL l)
set_option maxHeartbeats 1600000 in
theorem rise_any {v : Value} {l : List Lk} {w : World} (hs : SeesL lC 3 w v l) (hl : l.length ≤ 4398046511104) :
    Calls Try.prog 42 #[v] w fun e w' => RiseE l e ∧ Below w.heap.size w w' := by
  have HS : Hid (∀ w', Below w.heap.size w w' → SeesL lC 3 w' v l) := fun w' hb => hs.below lC_len hb
  obtain ⟨ao, cap, hv⟩ := hs.shape
  obtain ⟨n, hn⟩ : ∃ n, l.length = n := ⟨_, rfl⟩
  rw [hn] at hv hl
  have HN := hide hn
  subst hv
  clear hs hn
  go_enter Try.func42, Try.ntmps42
  go_wp2
  go_loopw [3] (fun c wr => ∃ t : Nat, (t ≤ n ∨ t = 1) ∧ 1 ≤ t ∧ c = .int .i64 t ∧ Below w.heap.size w wr ∧ ∀ i, i + 1 < t → ltK (l.getD i default).1 (l.getD (i + 1) default).1) (fun c _ => n + 1 - (intOf c).toNat)
  case atStart => exact ⟨1, .inr rfl, Nat.le_refl _, rfl, Below.refl _ _, fun i hi => by omega⟩
  case round =>
    obtain ⟨t, ht, ht1, rfl, hb, hR⟩ := hrel
    by_cases hlt : t < n
    · have hnl := unhide HN
      obtain ⟨u, hu⟩ : ∃ u, t = u + 1 := ⟨t - 1, by omega⟩
      have hsr := unhide HS wr hb
      obtain ⟨gb, ob, hao, g1, g2, g3⟩ := lock_cells hsr rfl (t := t) (by omega)
      obtain ⟨gb', ob', hao', k1, k2, k3⟩ := lock_cells hsr rfl (t := u) (by omega)
      rw [hao] at hao'
      simp only [Option.some.injEq, Addr.mk.injEq, and_true] at hao'
      obtain ⟨rfl, rfl⟩ := hao'
      subst hao
      obtain ⟨⟨⟨a, b⟩, d⟩, hx⟩ : ∃ k, l.getD t default = k := ⟨_, rfl⟩
      obtain ⟨⟨⟨a', b'⟩, d'⟩, hx'⟩ : ∃ k, l.getD u default = k := ⟨_, rfl⟩
      rw [hx] at g1 g2 g3
      rw [hx'] at k1 k2 k3
      have hC : Hid (∀ x, Below wr.heap.size wr x → Calls Try.prog 54 #[.agg #[.int .i32 a', .int .i64 b'], .agg #[.int .i32 a, .int .i64 b]] x fun e w' => e = .returned (.int .i64 (cmpK (a', b') (a, b))) ∧ Below wr.heap.size wr w') := fun x hx => (compare_any a' b' a b x).mono fun e w' h => ⟨h.1, hx.trans (h.2.below.mono hx.size)⟩
      have hrd : Hid (∀ x, Below wr.heap.size wr x → x.cell? ⟨gb, ob + u * 3, none⟩ = some (.int .i32 a') ∧ x.cell? ⟨gb, ob + u * 3 + 1, none⟩ = some (.int .i64 b') ∧ x.cell? ⟨gb, ob + t * 3, none⟩ = some (.int .i32 a) ∧ x.cell? ⟨gb, ob + t * 3 + 1, none⟩ = some (.int .i64 b)) := fun x hx => ⟨below_rd hx k1, below_rd hx k2, below_rd hx g1, below_rd hx g2⟩
      have hwt : IntKind.i64.wrap ((t : Int) - 1) = (u : Int) := by rw [wrap_i64 _ (by omega) (by omega)]; omega
      have hwu : IntKind.i64.wrap (u : Int) = (u : Int) := wrap_i64 _ (by omega) (by omega)
      have hwtt : IntKind.i64.wrap (t : Int) = (t : Int) := wrap_i64 _ (by omega) (by omega)
      have hd1 : decide ((t : Int) < n) = true := by simp; omega
      have htn : (0 : Int) ≤ t := by omega
      have hun : (0 : Int) ≤ u := by omega
      have htl : (t : Int) < n := by omega
      have hul : (u : Int) < n := by omega
      have hb0 := Below.refl wr.heap.size wr
      have HU := hide hu
      clear g1 g2 g3 k1 k2 k3 hsr hu
      go_wp2
      refine wp_region_held_drew (S := fun x => Below wr.heap.size wr x) (by kernel_rfl) hb0.drew (fun hHeld => ?_)
      refine wpAnyH_take (i := 0) (v := ?v1x0) rfl (by kernel_rfl) (by kernel_rfl) (by kernel_rfl) (fun _ _ _ h => h) (Or.inl ⟨by rfl, ?hy1x0⟩) (by assumption) ?rest1x0
      case hy1x0 => intro w hSw; go_simp <;> with_reducible rfl
      simp only [Act.put, List.getElem_toArray, List.getElem_cons_zero, List.setIfInBounds_toArray, List.set_cons_zero, List.set_cons_succ]
      refine wpAnyH_take (i := 1) (v := ?v2x1) rfl (by kernel_rfl) (by kernel_rfl) (by kernel_rfl) (fun _ _ _ h => h) (Or.inl ⟨by rfl, ?hy2x1⟩) (by assumption) ?rest2x1
      case hy2x1 => intro w hSw; go_simp <;> with_reducible rfl
      simp only [Act.put, List.getElem_toArray, List.getElem_cons_zero, List.getElem_cons_succ, List.setIfInBounds_toArray, List.set_cons_zero, List.set_cons_succ]
      refine wpAnyH_take (i := 2) (v := ?v3x2) rfl (by kernel_rfl) (by kernel_rfl) (by kernel_rfl) (fun _ _ _ h => h) (Or.inl ⟨by rfl, ?hy3x2⟩) (by assumption) ?rest3x2
      case hy3x2 => intro w hSw; go_simp <;> with_reducible rfl
      simp only [Act.put, List.getElem_toArray, List.getElem_cons_zero, List.getElem_cons_succ, List.setIfInBounds_toArray, List.set_cons_zero, List.set_cons_succ]
      refine wpAnyH_take (i := 3) (v := ?v4x3) rfl (by kernel_rfl) (by kernel_rfl) (by kernel_rfl) (fun _ _ _ h => h) (Or.inl ⟨by rfl, ?hy4x3⟩) (by assumption) ?rest4x3
      case hy4x3 => intro w hSw; go_simp <;> with_reducible rfl
      simp only [Act.put, List.getElem_toArray, List.getElem_cons_zero, List.getElem_cons_succ, List.setIfInBounds_toArray, List.set_cons_zero, List.set_cons_succ]
      refine wpAnyH_take (i := 4) (v := ?v5x4) rfl (by kernel_rfl) (by kernel_rfl) (by kernel_rfl) (fun _ _ _ h => h) (Or.inl ⟨by rfl, ?hy5x4⟩) (by assumption) ?rest5x4
      case hy5x4 => intro w hSw; go_simp <;> with_reducible rfl
      simp only [Act.put, List.getElem_toArray, List.getElem_cons_zero, List.getElem_cons_succ, List.setIfInBounds_toArray, List.set_cons_zero, List.set_cons_succ]
      refine wpAnyH_take (i := 5) (v := (.agg #[.int .i32 a', .int .i64 b'])) rfl (by kernel_rfl) (by kernel_rfl) (by kernel_rfl) (fun _ _ _ h => h) (Or.inl ⟨by rfl, ?hy6x5⟩) (by assumption) ?rest6x5
      case hy6x5 => intro w hSw; obtain ⟨s1, s2, s3, s4⟩ := unhide hrd _ hSw; go_simp <;> with_reducible rfl
      simp only [Act.put, List.getElem_toArray, List.getElem_cons_zero, List.getElem_cons_succ, List.setIfInBounds_toArray, List.set_cons_zero, List.set_cons_succ]
      refine wpAnyH_take (i := 6) (v := ?v7x6) rfl (by kernel_rfl) (by kernel_rfl) (by kernel_rfl) (fun _ _ _ h => h) (Or.inl ⟨by rfl, ?hy7x6⟩) (by assumption) ?rest7x6
      case hy7x6 => intro w hSw; go_simp <;> with_reducible rfl
      simp only [Act.put, List.getElem_toArray, List.getElem_cons_zero, List.getElem_cons_succ, List.setIfInBounds_toArray, List.set_cons_zero, List.set_cons_succ]
      refine wpAnyH_take (i := 7) (v := ?v8x7) rfl (by kernel_rfl) (by kernel_rfl) (by kernel_rfl) (fun _ _ _ h => h) (Or.inl ⟨by rfl, ?hy8x7⟩) (by assumption) ?rest8x7
      case hy8x7 => intro w hSw; go_simp <;> with_reducible rfl
      simp only [Act.put, List.getElem_toArray, List.getElem_cons_zero, List.getElem_cons_succ, List.setIfInBounds_toArray, List.set_cons_zero, List.set_cons_succ]
      refine wpAnyH_take (i := 8) (v := ?v9x8) rfl (by kernel_rfl) (by kernel_rfl) (by kernel_rfl) (fun _ _ _ h => h) (Or.inl ⟨by rfl, ?hy9x8⟩) (by assumption) ?rest9x8
      case hy9x8 => intro w hSw; go_simp <;> with_reducible rfl
      simp only [Act.put, List.getElem_toArray, List.getElem_cons_zero, List.getElem_cons_succ, List.setIfInBounds_toArray, List.set_cons_zero, List.set_cons_succ]
      refine wpAnyH_take (i := 9) (v := ?v10x9) rfl (by kernel_rfl) (by kernel_rfl) (by kernel_rfl) (fun _ _ _ h => h) (Or.inl ⟨by rfl, ?hy10x9⟩) (by assumption) ?rest10x9
      case hy10x9 => intro w hSw; go_simp <;> with_reducible rfl
      simp only [Act.put, List.getElem_toArray, List.getElem_cons_zero, List.getElem_cons_succ, List.setIfInBounds_toArray, List.set_cons_zero, List.set_cons_succ]
      refine wpAnyH_take (i := 10) (v := (.agg #[.int .i32 a, .int .i64 b])) rfl (by kernel_rfl) (by kernel_rfl) (by kernel_rfl) (fun _ _ _ h => h) (Or.inl ⟨by rfl, ?hy11x10⟩) (by assumption) ?rest11x10
      case hy11x10 => intro w hSw; obtain ⟨s1, s2, s3, s4⟩ := unhide hrd _ hSw; go_simp <;> with_reducible rfl
      simp only [Act.put, List.getElem_toArray, List.getElem_cons_zero, List.getElem_cons_succ, List.setIfInBounds_toArray, List.set_cons_zero, List.set_cons_succ]
      refine wpAnyH_ready (rs := [11]) (by kernel_rfl) (by simp) ?_
      refine AllReadyH.cons rfl (fun K hK => ?_) AllReadyH.nil
      go_simp
      refine (unhide hC _ (by assumption)).mono ?_
      rintro e wq ⟨rfl, hb1⟩
      refine hK _ _ hb1 ?_
      clear hK hHeld
      intro hHeld
      refine wpAnyH_take (i := 12) (v := ?v12x12) rfl (by kernel_rfl) (by kernel_rfl) (by kernel_rfl) (fun _ _ _ h => h) (Or.inl ⟨by rfl, ?hy12x12⟩) (by assumption) ?rest12x12
      case hy12x12 => intro w hSw; go_simp <;> with_reducible rfl
      simp only [Act.put, List.getElem_toArray, List.getElem_cons_zero, List.getElem_cons_succ, List.setIfInBounds_toArray, List.set_cons_zero, List.set_cons_succ]
      refine wpAnyH_done (by kernel_rfl) ?_ _
      have hb2 := hb.trans (hb1.mono hb.size)
      clear hb1 hb0
      by_cases hlk : ltK (a', b') (a, b)
      · have hneg := (cmpK_neg _ _).2 hlk
        have hge : decide (0 ≤ cmpK (a', b') (a, b)) = false := by simp; omega
        obtain ⟨t1, ht1'⟩ : ∃ t1, t + 1 = t1 := ⟨_, rfl⟩
        have hw1 : IntKind.i64.wrap ((t : Int) + 1) = (t1 : Int) := by rw [wrap_i64 _ (by omega) (by omega)]; omega
        go_wp2
        go_roundw
        case rel =>
          refine ⟨t1, .inl (by omega), by omega, rfl, hb2, fun i hi => ?_⟩
          by_cases e : i + 1 < t
          · exact hR i e
          · have hu := unhide HU
            obtain rfl : i = u := by omega
            rw [← hu, hx, hx']
            exact hlk
        case measure => simp [intOf]; omega
      · have hneg : ¬ cmpK (a', b') (a, b) < 0 := fun c => hlk ((cmpK_neg _ _).1 c)
        have hge : decide (0 ≤ cmpK (a', b') (a, b)) = true := by simp; omega
        go_wp2
        go_ret
        have hu := unhide HU
        refine ⟨⟨false, rfl, fun c => (by cases c), fun c => absurd (c u (by omega)) (by rw [← hu, hx, hx']; exact hlk)⟩, hb2⟩
    · go_wp2
      go_ret
      refine ⟨⟨true, rfl, fun _ i hi => hR i (by have := unhide HN; omega), fun _ => rfl⟩, hb⟩
end Go.Proofs.Yteenbebpdibbcaa
