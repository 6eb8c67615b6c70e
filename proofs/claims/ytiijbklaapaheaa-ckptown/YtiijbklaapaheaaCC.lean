/- Checkpoints: Decode. -/
import Derived.Test.YtiijbklaapaheaaCB
import Derived.Test.YtiijbklaapaheaaKA
import Derived.Test.YtiijbklaapaheaaKK
import Derived.Test.YtiijbklaapaheaaWB
import Derived.Test.YtiijbklaapaheaaR6
namespace Go.Proofs.Ytiijbklaapaheaa
open Go.RowKit
set_option maxRecDepth 100000

/-- What bytes say as a checkpoint: its number, slot, term, data; an error. -/
structure Ck where
  num : Int
  slot : Int
  last : Int
  data : List Int
  err : Int
def Ck.bad : Ck := ⟨0, 0, 0, [], 60⟩
def dec (zs : List Int) : Ck :=
  if (tu zs).2.2 ≠ 0 then .bad
  else if (nrun (tu zs).1 3).2.2 ≠ 0 then .bad
  else if (tb ((tu zs).1.drop (nrun (tu zs).1 3).2.1)).2.2 ≠ 0 ∨ (tb ((tu zs).1.drop (nrun (tu zs).1 3).2.1)).2.1 ≠ ((tu zs).1.drop (nrun (tu zs).1 3).2.1).length then .bad
  else if faultE ((nrun (tu zs).1 3).1.getD 0 0) ((nrun (tu zs).1 3).1.getD 1 0) ((nrun (tu zs).1 3).1.getD 2 0) (tb ((tu zs).1.drop (nrun (tu zs).1 3).2.1)).1.length ≠ 0 then .bad
  else ⟨(nrun (tu zs).1 3).1.getD 0 0, (nrun (tu zs).1 3).1.getD 1 0, (nrun (tu zs).1 3).1.getD 2 0, (tb ((tu zs).1.drop (nrun (tu zs).1 3).2.1)).1, 0⟩

/-- What Decode answers. -/
def DecR (w w' : World) (c : Ck) (e : Ending) : Prop := ∃ dv, e = .returned (.tuple #[.int .i64 c.num, .agg #[.int .i64 c.slot, .int .i64 c.last, dv], .int .i64 c.err]) ∧ w'.ownsRow w.heap.size 5 1 dv c.data.length (ints .u8 c.data) ∧ Below w.heap.size w w'

theorem decR_bad {w w' : World} (hb : Below w.heap.size w w') : DecR w w' .bad (.returned (.tuple #[.int .i64 0, .agg #[.int .i64 0, .int .i64 0, .slice none 0 0], .int .i64 60])) :=
  ⟨_, rfl, World.ownsRow_nil _ _ _ _, hb⟩

theorem tu_le (l : List Int) : (tu l).1.length ≤ 1048576 := by
  unfold tu
  (repeat' split) <;> simp <;> omega

/-- Three cells of a box are written. -/
theorem st3_cells {x : World} {b : Nat} {u0 u1 u2 v0 v1 v2 : Value} (h0 : x.cell? ⟨b, 0, none⟩ = some u0) (h1 : x.cell? ⟨b, 1, none⟩ = some u1) (h2 : x.cell? ⟨b, 2, none⟩ = some u2) :
    (((x.setCell ⟨b, 0, none⟩ v0).setCell ⟨b, 1, none⟩ v1).setCell ⟨b, 2, none⟩ v2).cell? ⟨b, 0, none⟩ = some v0 ∧ (((x.setCell ⟨b, 0, none⟩ v0).setCell ⟨b, 1, none⟩ v1).setCell ⟨b, 2, none⟩ v2).cell? ⟨b, 1, none⟩ = some v1 ∧ (((x.setCell ⟨b, 0, none⟩ v0).setCell ⟨b, 1, none⟩ v1).setCell ⟨b, 2, none⟩ v2).cell? ⟨b, 2, none⟩ = some v2 := by
  refine ⟨?_, ?_, ?_⟩
  · rw [cs_other (addr_ne (Or.inr (by decide))), cs_other (addr_ne (Or.inr (by decide)))]; exact cs_same h0
  · rw [cs_other (addr_ne (Or.inr (by decide)))]; exact cs_same (by rw [cs_other (addr_ne (Or.inr (by decide)))]; exact h1)
  · exact cs_same (by rw [cs_other (addr_ne (Or.inr (by decide))), cs_other (addr_ne (Or.inr (by decide)))]; exact h2)
theorem st3_below {N b : Nat} {w x : World} (h : Below N w x) (hb : N ≤ b) (v0 v1 v2 : Value) : Below N w (((x.setCell ⟨b, 0, none⟩ v0).setCell ⟨b, 1, none⟩ v1).setCell ⟨b, 2, none⟩ v2) :=
  ((h.setCell (p := ⟨b, 0, none⟩) hb _).setCell (p := ⟨b, 1, none⟩) hb _).setCell (p := ⟨b, 2, none⟩) hb _
/-- A box that was laid stays. -/
theorem box3f {w w1 : World} {x0 x1 x2 : Value} {t : TypeId} (hb : Below (w.heap.size + 1) (w.alloc (.cells #[x0, x1, x2] t)) w1) :
    w1.cell? ⟨w.heap.size, 0, none⟩ = some x0 ∧ w1.cell? ⟨w.heap.size, 1, none⟩ = some x1 ∧ w1.cell? ⟨w.heap.size, 2, none⟩ = some x2 ∧ ∀ o, w1.frozen? ⟨w.heap.size, o, none⟩ = false := by
  have h := box3 hb
  have hh : w1.heap[w.heap.size]? = some (.cells #[x0, x1, x2] t (0, 0)) := (hb.block _ (Nat.lt_succ_self _)).trans (heap_alloc_new _ _)
  exact ⟨h.1, h.2.1, h.2.2, fun o => by unfold World.frozen?; rw [hh]; simp⟩

/-- Three numbers in a row do not lie in a box of two numbers and a slice. -/
theorem apart3 {x : World} {b : Nat} {x0 x1 : Value} {y0 : Option Addr} {y1 y2 : Nat} {t : TypeId} {A : Addr} {k : Int} (hh : x.heap[b]? = some (.cells #[x0, x1, .slice y0 y1 y2] t (0, 0))) (h : x.cell? ⟨A.block, A.off + 2, none⟩ = some (.int .i64 k)) : A.block ≠ b := by
  intro e
  unfold World.cell? at h
  simp only [e, hh] at h
  rcases Nat.eq_zero_or_pos A.off with c | c
  · simp [c] at h
  · rw [if_neg (by simp)] at h
    rw [Array.getElem?_eq_none (by simp; omega)] at h
    cases h
theorem block3 {w w1 : World} {x0 x1 x2 : Value} {t : TypeId} (hb : Below (w.heap.size + 1) (w.alloc (.cells #[x0, x1, x2] t)) w1) : w1.heap[w.heap.size]? = some (.cells #[x0, x1, x2] t (0, 0)) :=
  (hb.block _ (Nat.lt_succ_self _)).trans (heap_alloc_new _ _)

/-- What is owned above a block is owned when the block is written. -/
theorem own_set {w : World} {base e size : Nat} {v : Value} {n : Nat} {xs : List Value} (h : w.ownsRow base e size v n xs) {p : Addr} (hp : p.block < base) (u : Value) : (w.setCell p u).ownsRow base e size v n xs := by
  refine ⟨h.1, ?_⟩
  rcases h.2 with hn | ⟨g, cap, cur, hv, hg, hh, r⟩
  · exact .inl hn
  · exact .inr ⟨g, cap, cur, hv, hg, (Below.heap_setCell _ _ _ _ (by omega)).trans hh, r⟩

set_option maxHeartbeats 3200000 in
theorem decode_any (bv : Value) (zs : List Int) (w : World) (hs : Sees w .u8 bv zs) (hby : Byt zs) (hm : zs.length ≤ 9223372036854775807) :
    Calls Try.prog 10 #[bv] w fun e w' => DecR w w' (dec zs) e := by
  obtain ⟨B, hB⟩ : ∃ B, w.alloc (.cells #[.int .i64 0, .int .i64 0, .slice none 0 0] 24) = B := ⟨_, rfl⟩
  have hal : Below w.heap.size w B := hB ▸ (Below.refl _ _).alloc (Nat.le_refl _) _
  have hsz : B.heap.size = w.heap.size + 1 := by rw [← hB]; simp
  have HBX : Hid (∀ x, Below B.heap.size B x → x.cell? ⟨w.heap.size, 0, none⟩ = some (.int .i64 0) ∧ x.cell? ⟨w.heap.size, 1, none⟩ = some (.int .i64 0) ∧ x.cell? ⟨w.heap.size, 2, none⟩ = some (.slice none 0 0) ∧ ∀ o, x.frozen? ⟨w.heap.size, o, none⟩ = false) := fun x hx => box3f (by rw [hB, ← hsz]; exact hx)
  have HBK : Hid (∀ x, Below B.heap.size B x → x.heap[w.heap.size]? = some (.cells #[.int .i64 0, .int .i64 0, .slice none 0 0] 24 (0, 0))) := fun x hx => block3 (by rw [hB, ← hsz]; exact hx)
  have HU := hide (unseal_any bv zs _ (hs.below hal) hby hm)
  have HAL := hide hal
  have HSZ := hide hsz
  have hd1 := tu_byte zs hby
  have hd2 := tu_le zs
  have hnr := nrun_le (tu zs).1 3
  obtain ⟨ao, cap, rfl, hlc, hnil, hc⟩ := hs
  unfold dec
  generalize tu zs = U at HU hd1 hd2 hnr ⊢
  obtain ⟨d, dn, de⟩ := U
  simp only at HU hd1 hd2 hnr ⊢
  clear hc hal hsz
  by_cases ce : de = 0
  · rw [if_neg (not_not_intro ce)]
    subst ce
    have HNy : Hid (∀ (bv : Value) (w : World), Sees w .u8 bv d → Calls Try.prog 35 #[bv, .int .i64 3] w fun e w' => ∃ x y, e = .returned (.tuple #[x, y, .int .i64 (nrun d 3).2.2]) ∧ Sees w' .i64 x (nrun d 3).1 ∧ Sees w' .u8 y (d.drop (nrun d 3).2.1) ∧ Below w.heap.size w w') := fun bv w h => nums_any bv d 3 w h hd1 (by omega) (by decide)
    generalize nrun d 3 = R at HNy hnr ⊢
    obtain ⟨l, ln, le⟩ := R
    simp only at HNy hnr ⊢
    have hr1 : Byt (d.drop ln) := fun b hb => hd1 b (List.mem_of_mem_drop hb)
    have hr2 : (d.drop ln).length ≤ 1048576 := by rw [List.length_drop]; omega
    generalize d.drop ln = rest at HNy hr1 hr2 ⊢
    have HTy : Hid (∀ (bv : Value) (w : World), Sees w .u8 bv rest → Calls Try.prog 36 #[bv] w fun e w' => ∃ x, e = .returned (.tuple #[x, .int .i64 (tb rest).2.1, .int .i64 (tb rest).2.2]) ∧ w'.ownsRow w.heap.size 5 1 x (tb rest).1.length (ints .u8 (tb rest).1) ∧ Below w.heap.size w w') := fun bv w h => takeBlob_any bv rest w h hr1 (by omega)
    have htl : (tb rest).1.length ≤ 9223372036854775807 := by
      unfold tb
      (repeat' split) <;> simp <;> omega
    generalize tb rest = T at HTy htl ⊢
    obtain ⟨data, tn', te⟩ := T
    simp only at HTy htl ⊢
    by_cases cl : le = 0
    · rw [if_neg (not_not_intro cl)]
      subst cl
      have hl3 : l.length = 3 := (hnr.2.1 rfl).1
      obtain ⟨l0, l1, l2, rfl⟩ : ∃ a b c, l = [a, b, c] := by match l, hl3 with | [a, b, c], _ => exact ⟨a, b, c, rfl⟩
      simp only [List.getD_cons_zero, List.getD_cons_succ]
      by_cases ct : te ≠ 0 ∨ tn' ≠ rest.length
      · rw [if_pos ct]
        go_enter Try.func10, Try.ntmps10
        go_wp2_with (rw [hB])
        refine (unhide HU).mono ?_
        rintro e w1 ⟨x1, rfl, o1, hb1⟩
        obtain ⟨a1, c1, rfl⟩ := own_shape o1
        have HB1 := hide hb1
        have HC1 := hide (unhide HNy _ w1 (sees_of_own o1).2)
        clear o1 hb1
        go_wp2_with fail
        refine (unhide HC1).mono ?_
        rintro e w2 ⟨x2, y2, rfl, s2, t2, hb2⟩
        have HB2 := hide ((unhide HB1).trans (hb2.mono (unhide HB1).size))
        have HC2 := hide (unhide HTy _ w2 t2)
        obtain ⟨b2, cb2, rfl, _⟩ := s2
        obtain ⟨e2, ce2, rfl, _⟩ := t2
        clear hb2
        go_wp2_with fail
        refine (unhide HC2).mono ?_
        rintro e w3 ⟨x3, rfl, o3, hb3⟩
        obtain ⟨a3, c3, rfl⟩ := own_shape o3
        have HB3 := hide ((unhide HB2).trans (hb3.mono (unhide HB2).size))
        have HF3 := hide ((unhide HAL).trans ((unhide HB3).mono (unhide HAL).size))
        clear o3 hb3
        by_cases cte : te = 0
        · subst cte
          have ctn : tn' ≠ rest.length := by rcases ct with c | c; exact absurd rfl c; exact c
          have ctn' : ((tn' : Int) != (rest.length : Int)) = true := by simp; omega
          have hbx := unhide HBX w3 (unhide HB3)
          obtain ⟨q0, q1, q2, qf⟩ := hbx
          go_wp2
          obtain ⟨k0, k1, k2⟩ := st3_cells (v0 := .int .i64 0) (v1 := .int .i64 0) (v2 := .slice none 0 0) q0 q1 q2
          refine bodyPost_ret (v := .tuple #[.int .i64 0, .agg #[.int .i64 0, .int .i64 0, .slice none 0 0], .int .i64 60]) (by simp [results, Try.results10, go_sem, k0, k1, k2]) rfl ?_
          exact decR_bad (st3_below (unhide HF3) (Nat.le_refl _) _ _ _)
        · have hbx := unhide HBX w3 (unhide HB3)
          obtain ⟨q0, q1, q2, qf⟩ := hbx
          go_wp2
          obtain ⟨k0, k1, k2⟩ := st3_cells (v0 := .int .i64 0) (v1 := .int .i64 0) (v2 := .slice none 0 0) q0 q1 q2
          refine bodyPost_ret (v := .tuple #[.int .i64 0, .agg #[.int .i64 0, .int .i64 0, .slice none 0 0], .int .i64 60]) (by simp [results, Try.results10, go_sem, k0, k1, k2]) rfl ?_
          exact decR_bad (st3_below (unhide HF3) (Nat.le_refl _) _ _ _)
      · rw [if_neg ct]
        have ct1 : te = 0 := Classical.not_not.1 fun c => ct (Or.inl c)
        have ct2 : tn' = rest.length := Classical.not_not.1 fun c => ct (Or.inr c)
        subst ct1
        rw [ct2] at HTy
        clear ct
        have HFA := hide (fun a c x => fault_any l0 l1 l2 a data.length c x htl)
        generalize faultE l0 l1 l2 data.length = fe at HFA ⊢
        go_enter Try.func10, Try.ntmps10
        go_wp2_with (rw [hB])
        refine (unhide HU).mono ?_
        rintro e w1 ⟨x1, rfl, o1, hb1⟩
        obtain ⟨a1, c1, rfl⟩ := own_shape o1
        have HB1 := hide hb1
        have HC1 := hide (unhide HNy _ w1 (sees_of_own o1).2)
        clear o1 hb1
        go_wp2_with fail
        refine (unhide HC1).mono ?_
        rintro e w2 ⟨x2, y2, rfl, s2, t2, hb2⟩
        have HB2 := hide ((unhide HB1).trans (hb2.mono (unhide HB1).size))
        have HC2 := hide (unhide HTy _ w2 t2)
        have HS2 := hide s2
        obtain ⟨b2, cb2, rfl, hcb2, hnb2, hcc2⟩ := s2
        obtain ⟨e2, ce2, rfl, _⟩ := t2
        clear hb2
        go_wp2_with fail
        refine (unhide HC2).mono ?_
        rintro e w3 ⟨x3, rfl, o3, hb3⟩
        obtain ⟨a3, c3, rfl⟩ := own_shape o3
        have HS3 := hide ((unhide HS2).below hb3)
        have HB3 := hide ((unhide HB2).trans (hb3.mono (unhide HB2).size))
        have HF3 := hide ((unhide HAL).trans ((unhide HB3).mono (unhide HAL).size))
        have HO3 := hide (own_lower o3 (Nat.le_trans (Nat.le_of_eq (unhide HSZ).symm) (unhide HB2).size))
        clear o3 hb3
        obtain ⟨A, rfl⟩ : ∃ A, b2 = some A := by
          cases b2 with
          | some A => exact ⟨A, rfl⟩
          | none => have := hnb2 rfl; simp at hcb2; omega
        have HLX : Hid (∀ x, Below w3.heap.size w3 x → x.cell? A = some (.int .i64 l0) ∧ x.cell? ⟨A.block, A.off + 1, none⟩ = some (.int .i64 l1) ∧ x.cell? ⟨A.block, A.off + 2, none⟩ = some (.int .i64 l2)) := by
          intro x hx
          obtain ⟨a', c', hq, _, _, hcc⟩ := (unhide HS3).below hx
          injection hq with hq1 hq2 hq3
          subst hq1
          exact ⟨hcc A rfl 0 (by simp), hcc A rfl 1 (by simp), hcc A rfl 2 (by simp)⟩
        clear hcb2 hnb2 hcc2
        go_wp2
        refine wp_region_held_drew (S := fun x => x.cell? ⟨A.block, A.off + 1, none⟩ = some (.int .i64 l1) ∧ x.cell? ⟨A.block, A.off + 2, none⟩ = some (.int .i64 l2)) (by kernel_rfl) (unhide HLX _ (Below.refl _ _).drew).2 (fun hHeld => ?_)
        refine wpAnyH_take (i := 0) (v := ?v1x0) rfl (by kernel_rfl) (by kernel_rfl) (by kernel_rfl) (fun _ _ _ h => h) (Or.inl ⟨by rfl, ?hy1x0⟩) (by assumption) ?rest1x0
        case hy1x0 => intro w hSw; obtain ⟨s1, s2⟩ := hSw; go_simp <;> with_reducible rfl
        simp only [Act.put, List.getElem_toArray, List.getElem_cons_zero, List.setIfInBounds_toArray, List.set_cons_zero, List.set_cons_succ]
        refine wpAnyH_take (i := 1) (v := ?v2x1) rfl (by kernel_rfl) (by kernel_rfl) (by kernel_rfl) (fun _ _ _ h => h) (Or.inl ⟨by rfl, ?hy2x1⟩) (by assumption) ?rest2x1
        case hy2x1 => intro w hSw; obtain ⟨s1, s2⟩ := hSw; go_simp <;> with_reducible rfl
        simp only [Act.put, List.getElem_toArray, List.getElem_cons_zero, List.getElem_cons_succ, List.setIfInBounds_toArray, List.set_cons_zero, List.set_cons_succ]
        refine wpAnyH_take (i := 2) (v := (.int .i64 l1)) rfl (by kernel_rfl) (by kernel_rfl) (by kernel_rfl) (fun _ _ _ h => h) (Or.inl ⟨by rfl, ?hy3x2⟩) (by assumption) ?rest3x2
        case hy3x2 => intro w hSw; obtain ⟨s1, s2⟩ := hSw; go_simp <;> with_reducible rfl
        simp only [Act.put, List.getElem_toArray, List.getElem_cons_zero, List.getElem_cons_succ, List.setIfInBounds_toArray, List.set_cons_zero, List.set_cons_succ]
        refine wpAnyH_take (i := 3) (v := ?v4x3) rfl (by kernel_rfl) (by kernel_rfl) (by kernel_rfl) (fun _ _ _ h => h) (Or.inl ⟨by rfl, ?hy4x3⟩) (by assumption) ?rest4x3
        case hy4x3 => intro w hSw; obtain ⟨s1, s2⟩ := hSw; go_simp <;> with_reducible rfl
        simp only [Act.put, List.getElem_toArray, List.getElem_cons_zero, List.getElem_cons_succ, List.setIfInBounds_toArray, List.set_cons_zero, List.set_cons_succ]
        refine wpAnyH_take (i := 4) (v := ?v5x4) rfl (by kernel_rfl) (by kernel_rfl) (by kernel_rfl) (fun _ _ _ h => h) (Or.inl ⟨by rfl, ?hy5x4⟩) (by assumption) ?rest5x4
        case hy5x4 => intro w hSw; obtain ⟨s1, s2⟩ := hSw; go_simp <;> with_reducible rfl
        simp only [Act.put, List.getElem_toArray, List.getElem_cons_zero, List.getElem_cons_succ, List.setIfInBounds_toArray, List.set_cons_zero, List.set_cons_succ]
        refine wpAnyH_take (i := 5) (v := (.int .i64 l2)) rfl (by kernel_rfl) (by kernel_rfl) (by kernel_rfl) (fun _ _ _ h => h) (Or.inl ⟨by rfl, ?hy6x5⟩) (by assumption) ?rest6x5
        case hy6x5 => intro w hSw; obtain ⟨s1, s2⟩ := hSw; go_simp <;> with_reducible rfl
        simp only [Act.put, List.getElem_toArray, List.getElem_cons_zero, List.getElem_cons_succ, List.setIfInBounds_toArray, List.set_cons_zero, List.set_cons_succ]
        refine wpAnyH_take (i := 6) (v := ?v7x6) rfl (by kernel_rfl) (by kernel_rfl) (by kernel_rfl) (fun _ _ _ h => h) (Or.inl ⟨by rfl, ?hy7x6⟩) (by assumption) ?rest7x6
        case hy7x6 => intro w hSw; obtain ⟨s1, s2⟩ := hSw; go_simp <;> with_reducible rfl
        simp only [Act.put, List.getElem_toArray, List.getElem_cons_zero, List.getElem_cons_succ, List.setIfInBounds_toArray, List.set_cons_zero, List.set_cons_succ]
        refine wpAnyH_take (i := 7) (v := ?v8x7) rfl (by kernel_rfl) (by kernel_rfl) (by kernel_rfl) (fun _ _ _ h => h) (Or.inl ⟨by rfl, ?hy8x7⟩) (by assumption) ?rest8x7
        case hy8x7 => intro w hSw; obtain ⟨s1, s2⟩ := hSw; go_simp <;> with_reducible rfl
        simp only [Act.put, List.getElem_toArray, List.getElem_cons_zero, List.getElem_cons_succ, List.setIfInBounds_toArray, List.set_cons_zero, List.set_cons_succ]
        refine wpAnyH_ready (rs := [8]) (by kernel_rfl) (by simp) ?_
        refine AllReadyH.cons rfl (fun K hK => ?_) AllReadyH.nil
        go_simp
        refine hK _ _ (unhide HLX _ ((Below.refl _ _).drew.alloc (Nat.le_refl _) _)).2 ?_
        clear hK hHeld
        intro hHeld
        refine wpAnyH_ready (rs := [9]) (by kernel_rfl) (by simp) ?_
        refine AllReadyH.cons rfl (fun K hK => ?_) AllReadyH.nil
        go_simp
        refine hK _ _ (unhide HLX _ ((Below.refl _ _).alloc (Nat.le_refl _) _).drew).2 ?_
        clear hK hHeld
        intro hHeld
        refine wpAnyH_done (by kernel_rfl) ?_ _
        have HB4 := hide (((unhide HB3).alloc (unhide HB3).size (.cells #[.int .i64 l1, .int .i64 l2, .slice a3 data.length c3] 24)).drew)
        have HBY : Hid (∀ x, Below (w3.heap.size + 1) (w3.alloc (.cells #[.int .i64 l1, .int .i64 l2, .slice a3 data.length c3] 24)) x → x.cell? ⟨w3.heap.size, 0, none⟩ = some (.int .i64 l1) ∧ x.cell? ⟨w3.heap.size, 1, none⟩ = some (.int .i64 l2) ∧ x.cell? ⟨w3.heap.size, 2, none⟩ = some (.slice a3 data.length c3)) := fun x hx => ⟨(box3f hx).1, (box3f hx).2.1, (box3f hx).2.2.1⟩
        obtain ⟨D, hD⟩ : ∃ D, w3.alloc (.cells #[.int .i64 l1, .int .i64 l2, .slice a3 data.length c3] 24) = D := ⟨_, rfl⟩
        rw [hD] at HB4 HBY ⊢
        have hsD : D.heap.size = w3.heap.size + 1 := by rw [← hD]; simp
        have HWD : Hid (Below w3.heap.size w3 D) := hD ▸ (Below.refl _ _).alloc (Nat.le_refl _) _
        have HLY : Hid (∀ x, Below (w3.heap.size + 1) D x → x.cell? A = some (.int .i64 l0) ∧ x.cell? ⟨w3.heap.size, 0, none⟩ = some (.int .i64 l1) ∧ x.cell? ⟨w3.heap.size, 1, none⟩ = some (.int .i64 l2) ∧ x.cell? ⟨w3.heap.size, 2, none⟩ = some (.slice a3 data.length c3)) := fun x hx => ⟨(unhide HLX x ((unhide HWD).trans (hx.mono (Nat.le_succ _)))).1, unhide HBY x hx⟩
        have HSD := hide hsD
        clear hD hsD
        go_wp2
        refine wp_region_held_drew (S := fun x => x.cell? A = some (.int .i64 l0) ∧ x.cell? ⟨w3.heap.size, 0, none⟩ = some (.int .i64 l1) ∧ x.cell? ⟨w3.heap.size, 1, none⟩ = some (.int .i64 l2) ∧ x.cell? ⟨w3.heap.size, 2, none⟩ = some (.slice a3 data.length c3)) (by kernel_rfl) (unhide HLY _ (Below.refl _ _).drew.drew) (fun hHeld => ?_)
        refine wpAnyH_take (i := 0) (v := ?v9x0) rfl (by kernel_rfl) (by kernel_rfl) (by kernel_rfl) (fun _ _ _ h => h) (Or.inl ⟨by rfl, ?hy9x0⟩) (by assumption) ?rest9x0
        case hy9x0 => intro w hSw; obtain ⟨s0, s1, s2, s3⟩ := hSw; go_simp <;> with_reducible rfl
        simp only [Act.put, List.getElem_toArray, List.getElem_cons_zero, List.setIfInBounds_toArray, List.set_cons_zero, List.set_cons_succ]
        refine wpAnyH_take (i := 1) (v := ?v10x1) rfl (by kernel_rfl) (by kernel_rfl) (by kernel_rfl) (fun _ _ _ h => h) (Or.inl ⟨by rfl, ?hy10x1⟩) (by assumption) ?rest10x1
        case hy10x1 => intro w hSw; obtain ⟨s0, s1, s2, s3⟩ := hSw; go_simp <;> with_reducible rfl
        simp only [Act.put, List.getElem_toArray, List.getElem_cons_zero, List.getElem_cons_succ, List.setIfInBounds_toArray, List.set_cons_zero, List.set_cons_succ]
        refine wpAnyH_take (i := 2) (v := (.int .i64 l0)) rfl (by kernel_rfl) (by kernel_rfl) (by kernel_rfl) (fun _ _ _ h => h) (Or.inl ⟨by rfl, ?hy11x2⟩) (by assumption) ?rest11x2
        case hy11x2 => intro w hSw; obtain ⟨s0, s1, s2, s3⟩ := hSw; go_simp <;> with_reducible rfl
        simp only [Act.put, List.getElem_toArray, List.getElem_cons_zero, List.getElem_cons_succ, List.setIfInBounds_toArray, List.set_cons_zero, List.set_cons_succ]
        refine wpAnyH_take (i := 3) (v := ?v12x3) rfl (by kernel_rfl) (by kernel_rfl) (by kernel_rfl) (fun _ _ _ h => h) (Or.inl ⟨by rfl, ?hy12x3⟩) (by assumption) ?rest12x3
        case hy12x3 => intro w hSw; obtain ⟨s0, s1, s2, s3⟩ := hSw; go_simp <;> with_reducible rfl
        simp only [Act.put, List.getElem_toArray, List.getElem_cons_zero, List.getElem_cons_succ, List.setIfInBounds_toArray, List.set_cons_zero, List.set_cons_succ]
        refine wpAnyH_ready (rs := [4]) (by kernel_rfl) (by simp) ?_
        refine AllReadyH.cons rfl (fun K hK => ?_) AllReadyH.nil
        go_simp
        refine (unhide HFA _ _ _).mono ?_
        rintro e w5 ⟨rfl, hb5⟩
        refine hK _ _ (unhide HLY _ ((Below.refl _ _).drew.drew.trans (hb5.mono (by have := unhide HSD; simp; omega)))) ?_
        clear hK hHeld
        have HBD : Hid (Below (w3.heap.size + 1) D w5) := (Below.refl _ _).drew.drew.trans (hb5.mono (by have := unhide HSD; simp; omega))
        clear hb5
        intro hHeld
        have HB5 : Hid (Below B.heap.size B w5) := (unhide HB3).trans (((unhide HWD).trans ((unhide HBD).mono (Nat.le_succ _))).mono (unhide HB3).size)
        have HF5 : Hid (Below w.heap.size w w5) := (unhide HAL).trans ((unhide HB5).mono (unhide HAL).size)
        by_cases cf : fe = 0
        · subst cf
          refine wpAnyH_take (i := 5) (v := ?v13x5) rfl (by kernel_rfl) (by kernel_rfl) (by kernel_rfl) (fun _ _ _ h => h) (Or.inl ⟨by rfl, ?hy13x5⟩) (by assumption) ?rest13x5
          case hy13x5 => intro w hSw; obtain ⟨s0, s1, s2, s3⟩ := hSw; go_simp <;> with_reducible rfl
          simp only [Act.put, List.getElem_toArray, List.getElem_cons_zero, List.getElem_cons_succ, List.setIfInBounds_toArray, List.set_cons_zero, List.set_cons_succ]
          refine wpAnyH_done (by kernel_rfl) ?_ _
          obtain ⟨q0, q1, q2, qf⟩ := unhide HBX w5 (unhide HB5)
          have hne : A.block ≠ w.heap.size := apart3 (unhide HBK w5 (unhide HB5)) (unhide HLX w5 ((unhide HWD).trans ((unhide HBD).mono (Nat.le_succ _)))).2.2
          have hne3 : w.heap.size ≠ w3.heap.size := by have := (unhide HB3).size; have := unhide HSZ; omega
          have HSA : Hid (∀ (x : World) (u0 u1 u2 : Value), (x.cell? A = some (.int .i64 l0) ∧ x.cell? ⟨w3.heap.size, 0, none⟩ = some (.int .i64 l1) ∧ x.cell? ⟨w3.heap.size, 1, none⟩ = some (.int .i64 l2) ∧ x.cell? ⟨w3.heap.size, 2, none⟩ = some (.slice a3 data.length c3)) → ((((x.setCell ⟨w.heap.size, 0, none⟩ u0).setCell ⟨w.heap.size, 1, none⟩ u1).setCell ⟨w.heap.size, 2, none⟩ u2).cell? A = some (.int .i64 l0) ∧ (((x.setCell ⟨w.heap.size, 0, none⟩ u0).setCell ⟨w.heap.size, 1, none⟩ u1).setCell ⟨w.heap.size, 2, none⟩ u2).cell? ⟨w3.heap.size, 0, none⟩ = some (.int .i64 l1) ∧ (((x.setCell ⟨w.heap.size, 0, none⟩ u0).setCell ⟨w.heap.size, 1, none⟩ u1).setCell ⟨w.heap.size, 2, none⟩ u2).cell? ⟨w3.heap.size, 1, none⟩ = some (.int .i64 l2) ∧ (((x.setCell ⟨w.heap.size, 0, none⟩ u0).setCell ⟨w.heap.size, 1, none⟩ u1).setCell ⟨w.heap.size, 2, none⟩ u2).cell? ⟨w3.heap.size, 2, none⟩ = some (.slice a3 data.length c3))) := by
            intro x u0 u1 u2 h
            have hA : ∀ o, (⟨w.heap.size, o, none⟩ : Addr) ≠ A := fun o e => hne (by rw [← e])
            have hC : ∀ o o', (⟨w.heap.size, o, none⟩ : Addr) ≠ ⟨w3.heap.size, o', none⟩ := fun o o' => addr_ne (Or.inl hne3)
            refine ⟨?_, ?_, ?_, ?_⟩
            · rw [cs_other (hA _), cs_other (hA _), cs_other (hA _)]; exact h.1
            · rw [cs_other (hC _ _), cs_other (hC _ _), cs_other (hC _ _)]; exact h.2.1
            · rw [cs_other (hC _ _), cs_other (hC _ _), cs_other (hC _ _)]; exact h.2.2.1
            · rw [cs_other (hC _ _), cs_other (hC _ _), cs_other (hC _ _)]; exact h.2.2.2
          have HQ := hide (And.intro q0 (And.intro q1 q2))
          clear hne hne3
          go_wp2
          refine wp_region_held_drew (S := fun x => x.cell? A = some (.int .i64 l0) ∧ x.cell? ⟨w3.heap.size, 0, none⟩ = some (.int .i64 l1) ∧ x.cell? ⟨w3.heap.size, 1, none⟩ = some (.int .i64 l2) ∧ x.cell? ⟨w3.heap.size, 2, none⟩ = some (.slice a3 data.length c3)) (by kernel_rfl) (unhide HLY _ (unhide HBD).drew) (fun hHeld => ?_)
          refine wpAnyH_take (i := 0) (v := ?v14x0) rfl (by kernel_rfl) (by kernel_rfl) (by kernel_rfl) (fun _ _ _ h => h) (Or.inl ⟨by rfl, ?hy14x0⟩) (by assumption) ?rest14x0
          case hy14x0 => intro w hSw; obtain ⟨s0, s1, s2, s3⟩ := hSw; go_simp <;> with_reducible rfl
          simp only [Act.put, List.getElem_toArray, List.getElem_cons_zero, List.setIfInBounds_toArray, List.set_cons_zero, List.set_cons_succ]
          refine wpAnyH_take (i := 1) (v := ?v15x1) rfl (by kernel_rfl) (by kernel_rfl) (by kernel_rfl) (fun _ _ _ h => h) (Or.inl ⟨by rfl, ?hy15x1⟩) (by assumption) ?rest15x1
          case hy15x1 => intro w hSw; obtain ⟨s0, s1, s2, s3⟩ := hSw; go_simp <;> with_reducible rfl
          simp only [Act.put, List.getElem_toArray, List.getElem_cons_zero, List.getElem_cons_succ, List.setIfInBounds_toArray, List.set_cons_zero, List.set_cons_succ]
          refine wpAnyH_take (i := 2) (v := (.int .i64 l0)) rfl (by kernel_rfl) (by kernel_rfl) (by kernel_rfl) (fun _ _ _ h => h) (Or.inl ⟨by rfl, ?hy16x2⟩) (by assumption) ?rest16x2
          case hy16x2 => intro w hSw; obtain ⟨s0, s1, s2, s3⟩ := hSw; go_simp <;> with_reducible rfl
          simp only [Act.put, List.getElem_toArray, List.getElem_cons_zero, List.getElem_cons_succ, List.setIfInBounds_toArray, List.set_cons_zero, List.set_cons_succ]
          refine wpAnyH_take (i := 3) (v := ?v17x3) rfl (by kernel_rfl) (by kernel_rfl) (by kernel_rfl) (fun _ _ _ h => h) (Or.inl ⟨by rfl, ?hy17x3⟩) (by assumption) ?rest17x3
          case hy17x3 => intro w hSw; obtain ⟨s0, s1, s2, s3⟩ := hSw; go_simp <;> with_reducible rfl
          simp only [Act.put, List.getElem_toArray, List.getElem_cons_zero, List.getElem_cons_succ, List.setIfInBounds_toArray, List.set_cons_zero, List.set_cons_succ]
          refine wpAnyH_take (i := 4) (v := ?v18x4) rfl (by kernel_rfl) (by kernel_rfl) (by kernel_rfl) (fun _ _ _ h => h) (Or.inl ⟨by rfl, ?hy18x4⟩) (by assumption) ?rest18x4
          case hy18x4 => intro w hSw; obtain ⟨s0, s1, s2, s3⟩ := hSw; go_simp <;> with_reducible rfl
          simp only [Act.put, List.getElem_toArray, List.getElem_cons_zero, List.getElem_cons_succ, List.setIfInBounds_toArray, List.set_cons_zero, List.set_cons_succ]
          refine wpAnyH_ready (rs := [5]) (by kernel_rfl) (by simp) ?_
          refine AllReadyH.cons rfl (fun K hK => ?_) AllReadyH.nil
          go_simp
          refine hK _ _ (unhide HSA _ _ _ _ (unhide HLY _ (unhide HBD))) ?_
          clear hK hHeld
          intro hHeld
          refine wpAnyH_take (i := 6) (v := ?v19x6) rfl (by kernel_rfl) (by kernel_rfl) (by kernel_rfl) (fun _ _ _ h => h) (Or.inl ⟨by rfl, ?hy19x6⟩) (by assumption) ?rest19x6
          case hy19x6 => intro w hSw; obtain ⟨s0, s1, s2, s3⟩ := hSw; go_simp <;> with_reducible rfl
          simp only [Act.put, List.getElem_toArray, List.getElem_cons_zero, List.getElem_cons_succ, List.setIfInBounds_toArray, List.set_cons_zero, List.set_cons_succ]
          refine wpAnyH_done (by kernel_rfl) ?_ _
          go_wp2
          obtain ⟨k0, k1, k2⟩ := st3_cells (v0 := .int .i64 l1) (v1 := .int .i64 l2) (v2 := .slice a3 data.length c3) (unhide HQ).1 (unhide HQ).2.1 (unhide HQ).2.2
          refine bodyPost_ret (v := .tuple #[.int .i64 l0, .agg #[.int .i64 l1, .int .i64 l2, .slice a3 data.length c3], .int .i64 0]) (by simp [results, Try.results10, go_sem, k0, k1, k2]) rfl ?_
          refine ⟨_, rfl, own_drew ?_, (st3_below (unhide HF5) (Nat.le_refl _) _ _ _).drew⟩
          have ho5 := own_below (unhide HO3) ((unhide HWD).trans ((unhide HBD).mono (Nat.le_succ _)))
          exact own_lower (own_set (own_set (own_set ho5 (Nat.lt_succ_self _) _) (Nat.lt_succ_self _) _) (Nat.lt_succ_self _) _) (Nat.le_succ _)
        · have cf' : ((fe : Int) != 0) = true := by simp [cf]
          refine wpAnyH_take (i := 5) (v := (.bool true)) rfl (by kernel_rfl) (by kernel_rfl) (by kernel_rfl) (fun _ _ _ h => h) (Or.inl ⟨by rfl, ?hy20x5⟩) (by assumption) ?rest20x5
          case hy20x5 => intro w hSw; obtain ⟨s0, s1, s2, s3⟩ := hSw; go_simp <;> with_reducible rfl
          simp only [Act.put, List.getElem_toArray, List.getElem_cons_zero, List.getElem_cons_succ, List.setIfInBounds_toArray, List.set_cons_zero, List.set_cons_succ]
          refine wpAnyH_done (by kernel_rfl) ?_ _
          obtain ⟨q0, q1, q2, qf⟩ := unhide HBX w5 (unhide HB5)
          go_wp2
          obtain ⟨k0, k1, k2⟩ := st3_cells (v0 := .int .i64 0) (v1 := .int .i64 0) (v2 := .slice none 0 0) q0 q1 q2
          refine bodyPost_ret (v := .tuple #[.int .i64 0, .agg #[.int .i64 0, .int .i64 0, .slice none 0 0], .int .i64 60]) (by simp [results, Try.results10, go_sem, k0, k1, k2]) rfl ?_
          exact decR_bad (st3_below (unhide HF5) (Nat.le_refl _) _ _ _)
    · rw [if_pos cl]
      go_enter Try.func10, Try.ntmps10
      go_wp2_with (rw [hB])
      refine (unhide HU).mono ?_
      rintro e w1 ⟨x1, rfl, o1, hb1⟩
      obtain ⟨a1, c1, rfl⟩ := own_shape o1
      have HB1 := hide hb1
      have HC1 := hide (unhide HNy _ w1 (sees_of_own o1).2)
      clear o1 hb1
      go_wp2_with fail
      refine (unhide HC1).mono ?_
      rintro e w2 ⟨x2, y2, rfl, s2, t2, hb2⟩
      have HB2 := hide ((unhide HB1).trans (hb2.mono (unhide HB1).size))
      have HF2 := hide ((unhide HAL).trans ((unhide HB2).mono (unhide HAL).size))
      obtain ⟨b2, cb2, rfl, _⟩ := s2
      obtain ⟨e2, ce2, rfl, _⟩ := t2
      clear hb2
      have hbx := unhide HBX w2 (unhide HB2)
      obtain ⟨q0, q1, q2, qf⟩ := hbx
      go_wp2
      obtain ⟨k0, k1, k2⟩ := st3_cells (v0 := .int .i64 0) (v1 := .int .i64 0) (v2 := .slice none 0 0) q0 q1 q2
      refine bodyPost_ret (v := .tuple #[.int .i64 0, .agg #[.int .i64 0, .int .i64 0, .slice none 0 0], .int .i64 60]) (by simp [results, Try.results10, go_sem, k0, k1, k2]) rfl ?_
      exact decR_bad (st3_below (unhide HF2) (Nat.le_refl _) _ _ _)
  · rw [if_pos ce]
    go_enter Try.func10, Try.ntmps10
    go_wp2_with (rw [hB])
    refine (unhide HU).mono ?_
    rintro e w1 ⟨x1, rfl, o1, hb1⟩
    obtain ⟨a1, c1, rfl⟩ := own_shape o1
    have HB1 := hide hb1
    have HF1 := hide ((unhide HAL).trans ((unhide HB1).mono (unhide HAL).size))
    clear o1 hb1
    have hbx := unhide HBX w1 (unhide HB1)
    obtain ⟨q0, q1, q2, qf⟩ := hbx
    go_wp2
    obtain ⟨k0, k1, k2⟩ := st3_cells (v0 := .int .i64 0) (v1 := .int .i64 0) (v2 := .slice none 0 0) q0 q1 q2
    refine bodyPost_ret (v := .tuple #[.int .i64 0, .agg #[.int .i64 0, .int .i64 0, .slice none 0 0], .int .i64 60]) (by simp [results, Try.results10, go_sem, k0, k1, k2]) rfl ?_
    exact decR_bad (st3_below (unhide HF1) (Nat.le_refl _) _ _ _)
end Go.Proofs.Ytiijbklaapaheaa
