/- Several texts as one. -/
import Derived.Test.YtibjhjkeflbghaaC2
import Derived.Test.YtibjhjkeflbghaaF0

/- Keys compared. -/
namespace Go.Proofs.Ytibjhjkeflbghaa
open Go.RowKit
set_option maxRecDepth 100000

/-- A key in a box, as long as nothing below turns. -/
theorem box_cells {y : World} {g : Nat} {a b : Int} (h : y.heap[g]? = some (.cells #[.int .i32 a, .int .i64 b] 37)) {x : World} (hb : Below y.heap.size y x) : x.cell? ⟨g, 0, none⟩ = some (.int .i32 a) ∧ x.cell? ⟨g, 1, none⟩ = some (.int .i64 b) := by
  have := (hb.block g (Array.getElem?_eq_some_iff.1 h).1).trans h
  exact ⟨cell_at this, cell_at this⟩
theorem cmp_from {y : World} {a b : Ky} {r : Int} (hr : cmpK a b = r) {x : World} (hb : Below y.heap.size y x) : Calls Try.prog 55 #[.agg #[.int .i32 a.1, .int .i64 a.2], .agg #[.int .i32 b.1, .int .i64 b.2]] x fun e w' => e = .returned (.int .i64 r) ∧ Below y.heap.size y w' := by
  subst hr
  exact (compare_any a.1 a.2 b.1 b.2 x).mono fun _ _ ⟨h1, h2⟩ => ⟨h1, hb.trans (h2.below.mono hb.size)⟩
theorem cmpK_trans {a b c : Ky} (h1 : cmpK a b ≤ 0) (h2 : cmpK b c ≤ 0) : cmpK a c ≤ 0 := by
  have e : ∀ x y : Ky, cmpK x y ≤ 0 ↔ ¬ ltK y x := fun x y => by
    rw [← cmpK_neg y x, cmpK_anti x y]
    omega
  rw [e] at *
  unfold ltK at *
  omega
end Go.Proofs.Ytibjhjkeflbghaa

/- The document's Keys. -/
namespace Go.Proofs.Ytibjhjkeflbghaa
open Go.RowKit
set_option maxRecDepth 100000

theorem rcmp_from {y : World} {a b : Ky} {r : Int} (hr : cmpK a b = r) {x : World} (hb : Below y.heap.size y x) : Calls Try.prog 57 #[.agg #[.int .i32 a.1, .int .i64 a.2], .agg #[.int .i32 b.1, .int .i64 b.2]] x fun e w' => e = .returned (.int .i64 r) ∧ Below y.heap.size y w' := by
  subst hr
  exact (rcompare_any a.1 a.2 b.1 b.2 x).mono fun _ _ ⟨h1, h2⟩ => ⟨h1, hb.trans (h2.below.mono hb.size)⟩
theorem key_cells {y : World} {v : Value} {l : List Ky} (hs : SeesL kC 2 y v l) {ao : Option Addr} {n cap : Nat} (hv : v = .slice ao n cap) {t : Nat} (ht : t < l.length) : ∃ gb ob, ao = some ⟨gb, ob, none⟩ ∧ n = l.length ∧ ∀ x, Below y.heap.size y x → x.cell? ⟨gb, ob + t * 2, none⟩ = some (.int .i32 (l.getD t default).1) ∧ x.cell? ⟨gb, ob + t * 2 + 1, none⟩ = some (.int .i64 (l.getD t default).2) := by
  obtain ⟨ao', cap', gb, ob, hv', _, _, hao, hcl⟩ := SeesL.key hs
  rw [hv] at hv'
  simp only [Value.slice.injEq] at hv'
  obtain ⟨rfl, rfl, rfl⟩ := hv'
  refine ⟨gb, ob, hao (by omega), rfl, fun x hx => ?_⟩
  obtain ⟨c1, c2⟩ := hcl t ht
  exact ⟨(hx.cell (p := ⟨gb, ob + t * 2, none⟩) (World.block_lt_of_cell? y _ c1)).trans c1, (hx.cell (p := ⟨gb, ob + t * 2 + 1, none⟩) (World.block_lt_of_cell? y _ c2)).trans c2⟩

set_option maxHeartbeats 6400000 in
theorem rkeys_any {v : Value} {l : List Ky} {w : World} (hs : SeesL kC 2 w v l) (hll : l.length ≤ 8796093022208) :
    Calls Try.prog 41 #[v] w fun e w' => ∃ r, e = .returned r ∧ w'.ownsRow w.heap.size 37 2 r (srt l).length ((srt l).flatMap kC) ∧ Below w.heap.size w w' := by
  have HS : Hid (∀ w', Below w.heap.size w w' → SeesL kC 2 w' v l) := fun w' hb => hs.below kC_len hb
  obtain ⟨ao, cap, _, _, hv, hcap, hmax, _⟩ := SeesL.key hs
  have HV := hide hv
  obtain ⟨n, hn⟩ : ∃ n, l.length = n := ⟨_, rfl⟩
  rw [hv, hn]
  rw [hn] at HV
  have HN := hide hn
  rw [hn] at hcap hmax hll
  clear hs hv hn
  go_enter Try.func41, Try.ntmps41
  go_wp2
  go_loopw [3, 4] (fun o c wr => ∃ t : Nat, t ≤ n ∧ c = .int .i64 t ∧ wr.ownsRow w.heap.size 37 2 o (srt (l.take t)).length ((srt (l.take t)).flatMap kC) ∧ Below w.heap.size w wr) (fun _ c _ => n - (intOf c).toNat)
  case atStart => exact ⟨0, by omega, rfl, own_nil _ _ _ _, Below.refl _ _⟩
  case round =>
    obtain ⟨t, ht, rfl, hown, hbw⟩ := hrel
    obtain ⟨wo, rfl⟩ : ∃ x, x = wr := ⟨_, rfl⟩
    have HBW := hide hbw
    by_cases hlt : t < n
    · have hnl := unhide HN
      have htl : t < l.length := by omega
      obtain ⟨gb, ob, hao, -, hcx⟩ := key_cells (unhide HS wo hbw) (unhide HV) htl
      subst hao
      obtain ⟨⟨a, b⟩, hx⟩ : ∃ k, l.getD t default = k := ⟨_, rfl⟩
      have hx' : l[t] = (a, b) := by rw [← hx]; simp [List.getD, htl]
      rw [hx] at hcx
      have HCX := hide hcx
      obtain ⟨D, hD⟩ : ∃ D, srt (l.take t) = D := ⟨_, rfl⟩
      have hdd : srt (l.take (t + 1)) = insK (a, b) D := by
        rw [List.take_succ_eq_append_getElem htl, srt_snoc, hx', hD]
      have hlen : D.length ≤ t := by rw [← hD]; exact Nat.le_trans (srt_len _) (by simp; omega)
      rw [hD] at hown
      have HDD := hide hdd
      have HOW := hide hown
      obtain ⟨m, hm⟩ : ∃ m, D.length = m := ⟨_, rfl⟩
      have hsees := (own_sees kC_len (by decide) hown).2
      have HSD := hide hsees
      obtain ⟨ov, oc, hov⟩ := own_shape hown
      have hoc : m ≤ oc := by
        obtain ⟨_, _, _, _, e, h2, _⟩ := hsees
        rw [hov] at e
        simp only [Value.slice.injEq] at e
        obtain ⟨rfl, _, rfl⟩ := e
        omega
      rw [hm] at hov hlen
      subst hov
      have HM := hide hm
      clear hx hx' hcx hdd hD hown hsees hm htl hnl
      go_wp2
      go_loopw [5] (fun c wi => ∃ j : Nat, j ≤ m ∧ c = .int .i64 j ∧ (∀ i x, i < j → D[i]? = some x → ltK x (a, b)) ∧ Below wo.heap.size wo wi) (fun c _ => m - (intOf c).toNat)
      case atStart => exact ⟨0, by omega, rfl, fun i x h => absurd h (by omega), Below.refl _ _⟩
      case round =>
        obtain ⟨j, hj, rfl, hall, hbi⟩ := hrel
        have HAL := hide hall
        have HBI := hide hbi
        by_cases hjm : j < m
        · have hmd := unhide HM
          have hjd : j < D.length := by omega
          obtain ⟨gd, od, hod, -, hcd⟩ := key_cells (unhide HSD) rfl hjd
          subst hod
          obtain ⟨⟨d, f⟩, hdj⟩ : ∃ k, D.getD j default = k := ⟨_, rfl⟩
          have hdj' : D[j]? = some (d, f) := by rw [← hdj]; simp [List.getD, hjd]
          rw [hdj] at hcd
          have HCD := hide hcd
          have HDJ := hide hdj'
          obtain ⟨r, hr⟩ : ∃ r, cmpK (d, f) (a, b) = r := ⟨_, rfl⟩
          have HRC : Hid (∀ x, Below wo.heap.size wo x → Calls Try.prog 57 #[.agg #[.int .i32 d, .int .i64 f], .agg #[.int .i32 a, .int .i64 b]] x fun e w' => e = .returned (.int .i64 r) ∧ Below wo.heap.size wo w') := fun x hx => rcmp_from (a := (d, f)) (b := (a, b)) hr hx
          have hrl : r < 0 ↔ ltK (d, f) (a, b) := by rw [← hr]; exact cmpK_neg _ _
          clear hmd hjd hcd hdj hdj' hr hall hbi
          have hjd : decide ((j : Int) < (m : Int)) = true := by simp; omega
          by_cases hneg : r < 0
          · have hnd : decide (r < 0) = true := decide_eq_true hneg
            have hL := hrl.1 hneg
            have HL := hide hL
            clear hrl hL
            go_wp2_with fail
            refine wp_region_held_drew (S := fun x => Below wo.heap.size wo x) (by kernel_rfl) (unhide HBI).drew (fun hHeld => ?_)
            refine wpAnyH_take (i := 0) (v := ?v1x0) rfl (by kernel_rfl) (by kernel_rfl) (by kernel_rfl) (fun _ _ _ h => h) (Or.inl ⟨by rfl, ?hy1x0⟩) (by assumption) ?rest1x0
            case hy1x0 => intro w hSw; go_simp <;> with_reducible rfl
            simp only [Act.put, List.getElem_toArray, List.getElem_cons_zero, List.setIfInBounds_toArray, List.set_cons_zero, List.set_cons_succ]
            refine wpAnyH_take (i := 1) (v := ?v2x1) rfl (by kernel_rfl) (by kernel_rfl) (by kernel_rfl) (fun _ _ _ h => h) (Or.inl ⟨by rfl, ?hy2x1⟩) (by assumption) ?rest2x1
            case hy2x1 => intro w hSw; go_simp <;> with_reducible rfl
            simp only [Act.put, List.getElem_toArray, List.getElem_cons_zero, List.getElem_cons_succ, List.setIfInBounds_toArray, List.set_cons_zero, List.set_cons_succ]
            refine wpAnyH_take (i := 2) (v := ?v3x2) rfl (by kernel_rfl) (by kernel_rfl) (by kernel_rfl) (fun _ _ _ h => h) (Or.inl ⟨by rfl, ?hy3x2⟩) (by assumption) ?rest3x2
            case hy3x2 => intro w hSw; go_simp <;> with_reducible rfl
            simp only [Act.put, List.getElem_toArray, List.getElem_cons_zero, List.getElem_cons_succ, List.setIfInBounds_toArray, List.set_cons_zero, List.set_cons_succ]
            refine wpAnyH_take (i := 3) (v := (.bool true)) rfl (by kernel_rfl) (by kernel_rfl) (by kernel_rfl) (fun _ _ _ h => h) (Or.inl ⟨by rfl, ?hy4x3⟩) (by assumption) ?rest4x3
            case hy4x3 => intro w hSw; go_simp <;> with_reducible rfl
            simp only [Act.put, List.getElem_toArray, List.getElem_cons_zero, List.getElem_cons_succ, List.setIfInBounds_toArray, List.set_cons_zero, List.set_cons_succ]
            refine wpAnyH_take (i := 4) (v := (.bool true)) rfl (by kernel_rfl) (by kernel_rfl) (by kernel_rfl) (fun _ _ _ h => h) (Or.inl ⟨by rfl, ?hy5x4⟩) (by assumption) ?rest5x4
            case hy5x4 => intro w hSw; go_simp <;> with_reducible rfl
            simp only [Act.put, List.getElem_toArray, List.getElem_cons_zero, List.getElem_cons_succ, List.setIfInBounds_toArray, List.set_cons_zero, List.set_cons_succ]
            refine wpAnyH_take (i := 5) (v := ?v6x5) rfl (by kernel_rfl) (by kernel_rfl) (by kernel_rfl) (fun _ _ _ h => h) (Or.inl ⟨by rfl, ?hy6x5⟩) (by assumption) ?rest6x5
            case hy6x5 => intro w hSw; go_simp <;> with_reducible rfl
            simp only [Act.put, List.getElem_toArray, List.getElem_cons_zero, List.getElem_cons_succ, List.setIfInBounds_toArray, List.set_cons_zero, List.set_cons_succ]
            refine wpAnyH_take (i := 6) (v := ?v7x6) rfl (by kernel_rfl) (by kernel_rfl) (by kernel_rfl) (fun _ _ _ h => h) (Or.inl ⟨by rfl, ?hy7x6⟩) (by assumption) ?rest7x6
            case hy7x6 => intro w hSw; go_simp <;> with_reducible rfl
            simp only [Act.put, List.getElem_toArray, List.getElem_cons_zero, List.getElem_cons_succ, List.setIfInBounds_toArray, List.set_cons_zero, List.set_cons_succ]
            refine wpAnyH_take (i := 7) (v := ?v8x7) rfl (by kernel_rfl) (by kernel_rfl) (by kernel_rfl) (fun _ _ _ h => h) (Or.inl ⟨by rfl, ?hy8x7⟩) (by assumption) ?rest8x7
            case hy8x7 => intro w hSw; go_simp <;> with_reducible rfl
            simp only [Act.put, List.getElem_toArray, List.getElem_cons_zero, List.getElem_cons_succ, List.setIfInBounds_toArray, List.set_cons_zero, List.set_cons_succ]
            refine wpAnyH_take (i := 8) (v := (.agg #[.int .i32 d, .int .i64 f])) rfl (by kernel_rfl) (by kernel_rfl) (by kernel_rfl) (fun _ _ _ h => h) (Or.inl ⟨by rfl, ?hy9x8⟩) (by assumption) ?rest9x8
            case hy9x8 => intro w hSw; obtain ⟨s1, s2⟩ := unhide HCD _ hSw; go_simp <;> with_reducible rfl
            simp only [Act.put, List.getElem_toArray, List.getElem_cons_zero, List.getElem_cons_succ, List.setIfInBounds_toArray, List.set_cons_zero, List.set_cons_succ]
            refine wpAnyH_take (i := 9) (v := ?v10x9) rfl (by kernel_rfl) (by kernel_rfl) (by kernel_rfl) (fun _ _ _ h => h) (Or.inl ⟨by rfl, ?hy10x9⟩) (by assumption) ?rest10x9
            case hy10x9 => intro w hSw; go_simp <;> with_reducible rfl
            simp only [Act.put, List.getElem_toArray, List.getElem_cons_zero, List.getElem_cons_succ, List.setIfInBounds_toArray, List.set_cons_zero, List.set_cons_succ]
            refine wpAnyH_take (i := 10) (v := ?v11x10) rfl (by kernel_rfl) (by kernel_rfl) (by kernel_rfl) (fun _ _ _ h => h) (Or.inl ⟨by rfl, ?hy11x10⟩) (by assumption) ?rest11x10
            case hy11x10 => intro w hSw; go_simp <;> with_reducible rfl
            simp only [Act.put, List.getElem_toArray, List.getElem_cons_zero, List.getElem_cons_succ, List.setIfInBounds_toArray, List.set_cons_zero, List.set_cons_succ]
            refine wpAnyH_take (i := 11) (v := ?v12x11) rfl (by kernel_rfl) (by kernel_rfl) (by kernel_rfl) (fun _ _ _ h => h) (Or.inl ⟨by rfl, ?hy12x11⟩) (by assumption) ?rest12x11
            case hy12x11 => intro w hSw; go_simp <;> with_reducible rfl
            simp only [Act.put, List.getElem_toArray, List.getElem_cons_zero, List.getElem_cons_succ, List.setIfInBounds_toArray, List.set_cons_zero, List.set_cons_succ]
            refine wpAnyH_take (i := 12) (v := (.agg #[.int .i32 a, .int .i64 b])) rfl (by kernel_rfl) (by kernel_rfl) (by kernel_rfl) (fun _ _ _ h => h) (Or.inl ⟨by rfl, ?hy13x12⟩) (by assumption) ?rest13x12
            case hy13x12 => intro w hSw; obtain ⟨s1, s2⟩ := unhide HCX _ hSw; go_simp <;> with_reducible rfl
            simp only [Act.put, List.getElem_toArray, List.getElem_cons_zero, List.getElem_cons_succ, List.setIfInBounds_toArray, List.set_cons_zero, List.set_cons_succ]
            refine wpAnyH_ready (rs := [13]) (by kernel_rfl) (by simp) ?_
            refine AllReadyH.cons rfl (fun K hK => ?_) AllReadyH.nil
            go_simp
            refine (unhide HRC _ (by assumption)).mono ?_
            rintro e wq ⟨rfl, hb1⟩
            refine hK _ _ hb1 ?_
            clear hK hHeld
            intro hHeld
            refine wpAnyH_take (i := 14) (v := (.bool true)) rfl (by kernel_rfl) (by kernel_rfl) (by kernel_rfl) (fun _ _ _ h => h) (Or.inl ⟨by rfl, ?hy14x14⟩) (by assumption) ?rest14x14
            case hy14x14 => intro w hSw; go_simp <;> with_reducible rfl
            simp only [Act.put, List.getElem_toArray, List.getElem_cons_zero, List.getElem_cons_succ, List.setIfInBounds_toArray, List.set_cons_zero, List.set_cons_succ]
            refine wpAnyH_take (i := 15) (v := (.bool true)) rfl (by kernel_rfl) (by kernel_rfl) (by kernel_rfl) (fun _ _ _ h => h) (Or.inl ⟨by rfl, ?hy15x15⟩) (by assumption) ?rest15x15
            case hy15x15 => intro w hSw; go_simp <;> with_reducible rfl
            simp only [Act.put, List.getElem_toArray, List.getElem_cons_zero, List.getElem_cons_succ, List.setIfInBounds_toArray, List.set_cons_zero, List.set_cons_succ]
            refine wpAnyH_done (by kernel_rfl) ?_ _
            go_wp2
            go_roundw
            case rel =>
              refine ⟨j + 1, by omega, by go_num, fun i x hi hxi => ?_, hb1⟩
              by_cases e : i = j
              · subst e
                rw [unhide HDJ] at hxi
                obtain rfl := Option.some.inj hxi
                exact unhide HL
              · exact unhide HAL i x (by omega) hxi
            case measure => simp [intOf]; omega
          · have hnd : decide (r < 0) = false := decide_eq_false hneg
            have hnl : ¬ ltK (d, f) (a, b) := fun c => hneg (hrl.2 c)
            have HNL := hide hnl
            clear hrl hnl
            have hplc : j = plc (a, b) D := plc_unique (by have := unhide HM; omega) (unhide HAL) (fun x hx => by rw [unhide HDJ] at hx; obtain rfl := Option.some.inj hx; exact unhide HNL)
            have HPL := hide hplc
            clear hplc
            go_wp2_with fail
            refine wp_region_held_drew (S := fun x => Below wo.heap.size wo x) (by kernel_rfl) (unhide HBI).drew (fun hHeld => ?_)
            refine wpAnyH_take (i := 0) (v := ?v16x0) rfl (by kernel_rfl) (by kernel_rfl) (by kernel_rfl) (fun _ _ _ h => h) (Or.inl ⟨by rfl, ?hy16x0⟩) (by assumption) ?rest16x0
            case hy16x0 => intro w hSw; go_simp <;> with_reducible rfl
            simp only [Act.put, List.getElem_toArray, List.getElem_cons_zero, List.setIfInBounds_toArray, List.set_cons_zero, List.set_cons_succ]
            refine wpAnyH_take (i := 1) (v := ?v17x1) rfl (by kernel_rfl) (by kernel_rfl) (by kernel_rfl) (fun _ _ _ h => h) (Or.inl ⟨by rfl, ?hy17x1⟩) (by assumption) ?rest17x1
            case hy17x1 => intro w hSw; go_simp <;> with_reducible rfl
            simp only [Act.put, List.getElem_toArray, List.getElem_cons_zero, List.getElem_cons_succ, List.setIfInBounds_toArray, List.set_cons_zero, List.set_cons_succ]
            refine wpAnyH_take (i := 2) (v := ?v18x2) rfl (by kernel_rfl) (by kernel_rfl) (by kernel_rfl) (fun _ _ _ h => h) (Or.inl ⟨by rfl, ?hy18x2⟩) (by assumption) ?rest18x2
            case hy18x2 => intro w hSw; go_simp <;> with_reducible rfl
            simp only [Act.put, List.getElem_toArray, List.getElem_cons_zero, List.getElem_cons_succ, List.setIfInBounds_toArray, List.set_cons_zero, List.set_cons_succ]
            refine wpAnyH_take (i := 3) (v := (.bool true)) rfl (by kernel_rfl) (by kernel_rfl) (by kernel_rfl) (fun _ _ _ h => h) (Or.inl ⟨by rfl, ?hy19x3⟩) (by assumption) ?rest19x3
            case hy19x3 => intro w hSw; go_simp <;> with_reducible rfl
            simp only [Act.put, List.getElem_toArray, List.getElem_cons_zero, List.getElem_cons_succ, List.setIfInBounds_toArray, List.set_cons_zero, List.set_cons_succ]
            refine wpAnyH_take (i := 4) (v := (.bool true)) rfl (by kernel_rfl) (by kernel_rfl) (by kernel_rfl) (fun _ _ _ h => h) (Or.inl ⟨by rfl, ?hy20x4⟩) (by assumption) ?rest20x4
            case hy20x4 => intro w hSw; go_simp <;> with_reducible rfl
            simp only [Act.put, List.getElem_toArray, List.getElem_cons_zero, List.getElem_cons_succ, List.setIfInBounds_toArray, List.set_cons_zero, List.set_cons_succ]
            refine wpAnyH_take (i := 5) (v := ?v21x5) rfl (by kernel_rfl) (by kernel_rfl) (by kernel_rfl) (fun _ _ _ h => h) (Or.inl ⟨by rfl, ?hy21x5⟩) (by assumption) ?rest21x5
            case hy21x5 => intro w hSw; go_simp <;> with_reducible rfl
            simp only [Act.put, List.getElem_toArray, List.getElem_cons_zero, List.getElem_cons_succ, List.setIfInBounds_toArray, List.set_cons_zero, List.set_cons_succ]
            refine wpAnyH_take (i := 6) (v := ?v22x6) rfl (by kernel_rfl) (by kernel_rfl) (by kernel_rfl) (fun _ _ _ h => h) (Or.inl ⟨by rfl, ?hy22x6⟩) (by assumption) ?rest22x6
            case hy22x6 => intro w hSw; go_simp <;> with_reducible rfl
            simp only [Act.put, List.getElem_toArray, List.getElem_cons_zero, List.getElem_cons_succ, List.setIfInBounds_toArray, List.set_cons_zero, List.set_cons_succ]
            refine wpAnyH_take (i := 7) (v := ?v23x7) rfl (by kernel_rfl) (by kernel_rfl) (by kernel_rfl) (fun _ _ _ h => h) (Or.inl ⟨by rfl, ?hy23x7⟩) (by assumption) ?rest23x7
            case hy23x7 => intro w hSw; go_simp <;> with_reducible rfl
            simp only [Act.put, List.getElem_toArray, List.getElem_cons_zero, List.getElem_cons_succ, List.setIfInBounds_toArray, List.set_cons_zero, List.set_cons_succ]
            refine wpAnyH_take (i := 8) (v := (.agg #[.int .i32 d, .int .i64 f])) rfl (by kernel_rfl) (by kernel_rfl) (by kernel_rfl) (fun _ _ _ h => h) (Or.inl ⟨by rfl, ?hy24x8⟩) (by assumption) ?rest24x8
            case hy24x8 => intro w hSw; obtain ⟨s1, s2⟩ := unhide HCD _ hSw; go_simp <;> with_reducible rfl
            simp only [Act.put, List.getElem_toArray, List.getElem_cons_zero, List.getElem_cons_succ, List.setIfInBounds_toArray, List.set_cons_zero, List.set_cons_succ]
            refine wpAnyH_take (i := 9) (v := ?v25x9) rfl (by kernel_rfl) (by kernel_rfl) (by kernel_rfl) (fun _ _ _ h => h) (Or.inl ⟨by rfl, ?hy25x9⟩) (by assumption) ?rest25x9
            case hy25x9 => intro w hSw; go_simp <;> with_reducible rfl
            simp only [Act.put, List.getElem_toArray, List.getElem_cons_zero, List.getElem_cons_succ, List.setIfInBounds_toArray, List.set_cons_zero, List.set_cons_succ]
            refine wpAnyH_take (i := 10) (v := ?v26x10) rfl (by kernel_rfl) (by kernel_rfl) (by kernel_rfl) (fun _ _ _ h => h) (Or.inl ⟨by rfl, ?hy26x10⟩) (by assumption) ?rest26x10
            case hy26x10 => intro w hSw; go_simp <;> with_reducible rfl
            simp only [Act.put, List.getElem_toArray, List.getElem_cons_zero, List.getElem_cons_succ, List.setIfInBounds_toArray, List.set_cons_zero, List.set_cons_succ]
            refine wpAnyH_take (i := 11) (v := ?v27x11) rfl (by kernel_rfl) (by kernel_rfl) (by kernel_rfl) (fun _ _ _ h => h) (Or.inl ⟨by rfl, ?hy27x11⟩) (by assumption) ?rest27x11
            case hy27x11 => intro w hSw; go_simp <;> with_reducible rfl
            simp only [Act.put, List.getElem_toArray, List.getElem_cons_zero, List.getElem_cons_succ, List.setIfInBounds_toArray, List.set_cons_zero, List.set_cons_succ]
            refine wpAnyH_take (i := 12) (v := (.agg #[.int .i32 a, .int .i64 b])) rfl (by kernel_rfl) (by kernel_rfl) (by kernel_rfl) (fun _ _ _ h => h) (Or.inl ⟨by rfl, ?hy28x12⟩) (by assumption) ?rest28x12
            case hy28x12 => intro w hSw; obtain ⟨s1, s2⟩ := unhide HCX _ hSw; go_simp <;> with_reducible rfl
            simp only [Act.put, List.getElem_toArray, List.getElem_cons_zero, List.getElem_cons_succ, List.setIfInBounds_toArray, List.set_cons_zero, List.set_cons_succ]
            refine wpAnyH_ready (rs := [13]) (by kernel_rfl) (by simp) ?_
            refine AllReadyH.cons rfl (fun K hK => ?_) AllReadyH.nil
            go_simp
            refine (unhide HRC _ (by assumption)).mono ?_
            rintro e wq ⟨rfl, hb1⟩
            refine hK _ _ hb1 ?_
            clear hK hHeld
            intro hHeld
            refine wpAnyH_take (i := 14) (v := (.bool false)) rfl (by kernel_rfl) (by kernel_rfl) (by kernel_rfl) (fun _ _ _ h => h) (Or.inl ⟨by rfl, ?hy29x14⟩) (by assumption) ?rest29x14
            case hy29x14 => intro w hSw; go_simp <;> with_reducible rfl
            simp only [Act.put, List.getElem_toArray, List.getElem_cons_zero, List.getElem_cons_succ, List.setIfInBounds_toArray, List.set_cons_zero, List.set_cons_succ]
            refine wpAnyH_take (i := 15) (v := (.bool false)) rfl (by kernel_rfl) (by kernel_rfl) (by kernel_rfl) (fun _ _ _ h => h) (Or.inl ⟨by rfl, ?hy30x15⟩) (by assumption) ?rest30x15
            case hy30x15 => intro w hSw; go_simp <;> with_reducible rfl
            simp only [Act.put, List.getElem_toArray, List.getElem_cons_zero, List.getElem_cons_succ, List.setIfInBounds_toArray, List.set_cons_zero, List.set_cons_succ]
            refine wpAnyH_done (by kernel_rfl) ?_ _
            have hE := eql_key d f a b
            by_cases heq : (d, f) = (a, b)
            · have hqd : decide ((d, f) = (a, b)) = true := decide_eq_true heq
              have hsame : srt (l.take (t + 1)) = D := by
                have h := insK_plc (a, b) D
                rw [← unhide HPL, if_pos (by rw [unhide HDJ, heq])] at h
                rw [unhide HDD, h]
              have HRR : Hid (∀ x, Below wo.heap.size wo x → x.ownsRow w.heap.size 37 2 (.slice (some ⟨gd, od, none⟩) m oc) (srt (l.take (t + 1))).length ((srt (l.take (t + 1))).flatMap kC) ∧ Below w.heap.size w x) := fun x hx => by
                rw [hsame]
                exact ⟨own_below (unhide HOW) hx, (unhide HBW).trans (hx.mono (unhide HBW).size)⟩
              have HB1 := hide hb1
              clear hsame hb1
              go_wp2_with fail
              refine wp_region_held_drew (S := fun x => Below wo.heap.size wo x) (by kernel_rfl) (unhide HB1).drew (fun hHeld => ?_)
              refine wpAnyH_take (i := 0) (v := ?v31x0) rfl (by kernel_rfl) (by kernel_rfl) (by kernel_rfl) (fun _ _ _ h => h) (Or.inl ⟨by rfl, ?hy31x0⟩) (by assumption) ?rest31x0
              case hy31x0 => intro w hSw; go_simp <;> with_reducible rfl
              simp only [Act.put, List.getElem_toArray, List.getElem_cons_zero, List.setIfInBounds_toArray, List.set_cons_zero, List.set_cons_succ]
              refine wpAnyH_take (i := 1) (v := ?v32x1) rfl (by kernel_rfl) (by kernel_rfl) (by kernel_rfl) (fun _ _ _ h => h) (Or.inl ⟨by rfl, ?hy32x1⟩) (by assumption) ?rest32x1
              case hy32x1 => intro w hSw; go_simp <;> with_reducible rfl
              simp only [Act.put, List.getElem_toArray, List.getElem_cons_zero, List.getElem_cons_succ, List.setIfInBounds_toArray, List.set_cons_zero, List.set_cons_succ]
              refine wpAnyH_take (i := 2) (v := ?v33x2) rfl (by kernel_rfl) (by kernel_rfl) (by kernel_rfl) (fun _ _ _ h => h) (Or.inl ⟨by rfl, ?hy33x2⟩) (by assumption) ?rest33x2
              case hy33x2 => intro w hSw; go_simp <;> with_reducible rfl
              simp only [Act.put, List.getElem_toArray, List.getElem_cons_zero, List.getElem_cons_succ, List.setIfInBounds_toArray, List.set_cons_zero, List.set_cons_succ]
              refine wpAnyH_take (i := 3) (v := (.bool true)) rfl (by kernel_rfl) (by kernel_rfl) (by kernel_rfl) (fun _ _ _ h => h) (Or.inl ⟨by rfl, ?hy34x3⟩) (by assumption) ?rest34x3
              case hy34x3 => intro w hSw; go_simp <;> with_reducible rfl
              simp only [Act.put, List.getElem_toArray, List.getElem_cons_zero, List.getElem_cons_succ, List.setIfInBounds_toArray, List.set_cons_zero, List.set_cons_succ]
              refine wpAnyH_take (i := 4) (v := (.bool true)) rfl (by kernel_rfl) (by kernel_rfl) (by kernel_rfl) (fun _ _ _ h => h) (Or.inl ⟨by rfl, ?hy35x4⟩) (by assumption) ?rest35x4
              case hy35x4 => intro w hSw; go_simp <;> with_reducible rfl
              simp only [Act.put, List.getElem_toArray, List.getElem_cons_zero, List.getElem_cons_succ, List.setIfInBounds_toArray, List.set_cons_zero, List.set_cons_succ]
              refine wpAnyH_take (i := 5) (v := ?v36x5) rfl (by kernel_rfl) (by kernel_rfl) (by kernel_rfl) (fun _ _ _ h => h) (Or.inl ⟨by rfl, ?hy36x5⟩) (by assumption) ?rest36x5
              case hy36x5 => intro w hSw; go_simp <;> with_reducible rfl
              simp only [Act.put, List.getElem_toArray, List.getElem_cons_zero, List.getElem_cons_succ, List.setIfInBounds_toArray, List.set_cons_zero, List.set_cons_succ]
              refine wpAnyH_take (i := 6) (v := ?v37x6) rfl (by kernel_rfl) (by kernel_rfl) (by kernel_rfl) (fun _ _ _ h => h) (Or.inl ⟨by rfl, ?hy37x6⟩) (by assumption) ?rest37x6
              case hy37x6 => intro w hSw; go_simp <;> with_reducible rfl
              simp only [Act.put, List.getElem_toArray, List.getElem_cons_zero, List.getElem_cons_succ, List.setIfInBounds_toArray, List.set_cons_zero, List.set_cons_succ]
              refine wpAnyH_take (i := 7) (v := ?v38x7) rfl (by kernel_rfl) (by kernel_rfl) (by kernel_rfl) (fun _ _ _ h => h) (Or.inl ⟨by rfl, ?hy38x7⟩) (by assumption) ?rest38x7
              case hy38x7 => intro w hSw; go_simp <;> with_reducible rfl
              simp only [Act.put, List.getElem_toArray, List.getElem_cons_zero, List.getElem_cons_succ, List.setIfInBounds_toArray, List.set_cons_zero, List.set_cons_succ]
              refine wpAnyH_take (i := 8) (v := (.agg #[.int .i32 d, .int .i64 f])) rfl (by kernel_rfl) (by kernel_rfl) (by kernel_rfl) (fun _ _ _ h => h) (Or.inl ⟨by rfl, ?hy39x8⟩) (by assumption) ?rest39x8
              case hy39x8 => intro w hSw; obtain ⟨s1, s2⟩ := unhide HCD _ hSw; go_simp <;> with_reducible rfl
              simp only [Act.put, List.getElem_toArray, List.getElem_cons_zero, List.getElem_cons_succ, List.setIfInBounds_toArray, List.set_cons_zero, List.set_cons_succ]
              refine wpAnyH_take (i := 9) (v := ?v40x9) rfl (by kernel_rfl) (by kernel_rfl) (by kernel_rfl) (fun _ _ _ h => h) (Or.inl ⟨by rfl, ?hy40x9⟩) (by assumption) ?rest40x9
              case hy40x9 => intro w hSw; go_simp <;> with_reducible rfl
              simp only [Act.put, List.getElem_toArray, List.getElem_cons_zero, List.getElem_cons_succ, List.setIfInBounds_toArray, List.set_cons_zero, List.set_cons_succ]
              refine wpAnyH_take (i := 10) (v := ?v41x10) rfl (by kernel_rfl) (by kernel_rfl) (by kernel_rfl) (fun _ _ _ h => h) (Or.inl ⟨by rfl, ?hy41x10⟩) (by assumption) ?rest41x10
              case hy41x10 => intro w hSw; go_simp <;> with_reducible rfl
              simp only [Act.put, List.getElem_toArray, List.getElem_cons_zero, List.getElem_cons_succ, List.setIfInBounds_toArray, List.set_cons_zero, List.set_cons_succ]
              refine wpAnyH_take (i := 11) (v := ?v42x11) rfl (by kernel_rfl) (by kernel_rfl) (by kernel_rfl) (fun _ _ _ h => h) (Or.inl ⟨by rfl, ?hy42x11⟩) (by assumption) ?rest42x11
              case hy42x11 => intro w hSw; go_simp <;> with_reducible rfl
              simp only [Act.put, List.getElem_toArray, List.getElem_cons_zero, List.getElem_cons_succ, List.setIfInBounds_toArray, List.set_cons_zero, List.set_cons_succ]
              refine wpAnyH_take (i := 12) (v := (.agg #[.int .i32 a, .int .i64 b])) rfl (by kernel_rfl) (by kernel_rfl) (by kernel_rfl) (fun _ _ _ h => h) (Or.inl ⟨by rfl, ?hy43x12⟩) (by assumption) ?rest43x12
              case hy43x12 => intro w hSw; obtain ⟨s1, s2⟩ := unhide HCX _ hSw; go_simp <;> with_reducible rfl
              simp only [Act.put, List.getElem_toArray, List.getElem_cons_zero, List.getElem_cons_succ, List.setIfInBounds_toArray, List.set_cons_zero, List.set_cons_succ]
              refine wpAnyH_take (i := 13) (v := (.bool true)) rfl (by kernel_rfl) (by kernel_rfl) (by kernel_rfl) (fun _ _ _ h => h) (Or.inl ⟨by rfl, ?hy44x13⟩) (by assumption) ?rest44x13
              case hy44x13 => intro w hSw; go_simp <;> with_reducible rfl
              simp only [Act.put, List.getElem_toArray, List.getElem_cons_zero, List.getElem_cons_succ, List.setIfInBounds_toArray, List.set_cons_zero, List.set_cons_succ]
              refine wpAnyH_take (i := 14) (v := (.bool true)) rfl (by kernel_rfl) (by kernel_rfl) (by kernel_rfl) (fun _ _ _ h => h) (Or.inl ⟨by rfl, ?hy45x14⟩) (by assumption) ?rest45x14
              case hy45x14 => intro w hSw; go_simp <;> with_reducible rfl
              simp only [Act.put, List.getElem_toArray, List.getElem_cons_zero, List.getElem_cons_succ, List.setIfInBounds_toArray, List.set_cons_zero, List.set_cons_succ]
              refine wpAnyH_done (by kernel_rfl) ?_ _
              go_wp2
              go_roundw
              case rel => exact ⟨t + 1, by omega, by go_num, unhide HRR _ (unhide HB1).drew⟩
              case measure => simp [intOf]; omega
            · have hqd : decide ((d, f) = (a, b)) = false := decide_eq_false heq
              have HNX : Hid (¬ D[j]? = some (a, b)) := fun c => by rw [unhide HDJ] at c; exact heq (Option.some.inj c)
              have HB1 := hide hb1
              clear hb1
              go_wp2_with fail
              refine wp_region_held_drew (S := fun x => Below wo.heap.size wo x) (by kernel_rfl) (unhide HB1).drew (fun hHeld => ?_)
              refine wpAnyH_take (i := 0) (v := ?v46x0) rfl (by kernel_rfl) (by kernel_rfl) (by kernel_rfl) (fun _ _ _ h => h) (Or.inl ⟨by rfl, ?hy46x0⟩) (by assumption) ?rest46x0
              case hy46x0 => intro w hSw; go_simp <;> with_reducible rfl
              simp only [Act.put, List.getElem_toArray, List.getElem_cons_zero, List.setIfInBounds_toArray, List.set_cons_zero, List.set_cons_succ]
              refine wpAnyH_take (i := 1) (v := ?v47x1) rfl (by kernel_rfl) (by kernel_rfl) (by kernel_rfl) (fun _ _ _ h => h) (Or.inl ⟨by rfl, ?hy47x1⟩) (by assumption) ?rest47x1
              case hy47x1 => intro w hSw; go_simp <;> with_reducible rfl
              simp only [Act.put, List.getElem_toArray, List.getElem_cons_zero, List.getElem_cons_succ, List.setIfInBounds_toArray, List.set_cons_zero, List.set_cons_succ]
              refine wpAnyH_take (i := 2) (v := ?v48x2) rfl (by kernel_rfl) (by kernel_rfl) (by kernel_rfl) (fun _ _ _ h => h) (Or.inl ⟨by rfl, ?hy48x2⟩) (by assumption) ?rest48x2
              case hy48x2 => intro w hSw; go_simp <;> with_reducible rfl
              simp only [Act.put, List.getElem_toArray, List.getElem_cons_zero, List.getElem_cons_succ, List.setIfInBounds_toArray, List.set_cons_zero, List.set_cons_succ]
              refine wpAnyH_take (i := 3) (v := (.bool true)) rfl (by kernel_rfl) (by kernel_rfl) (by kernel_rfl) (fun _ _ _ h => h) (Or.inl ⟨by rfl, ?hy49x3⟩) (by assumption) ?rest49x3
              case hy49x3 => intro w hSw; go_simp <;> with_reducible rfl
              simp only [Act.put, List.getElem_toArray, List.getElem_cons_zero, List.getElem_cons_succ, List.setIfInBounds_toArray, List.set_cons_zero, List.set_cons_succ]
              refine wpAnyH_take (i := 4) (v := (.bool true)) rfl (by kernel_rfl) (by kernel_rfl) (by kernel_rfl) (fun _ _ _ h => h) (Or.inl ⟨by rfl, ?hy50x4⟩) (by assumption) ?rest50x4
              case hy50x4 => intro w hSw; go_simp <;> with_reducible rfl
              simp only [Act.put, List.getElem_toArray, List.getElem_cons_zero, List.getElem_cons_succ, List.setIfInBounds_toArray, List.set_cons_zero, List.set_cons_succ]
              refine wpAnyH_take (i := 5) (v := ?v51x5) rfl (by kernel_rfl) (by kernel_rfl) (by kernel_rfl) (fun _ _ _ h => h) (Or.inl ⟨by rfl, ?hy51x5⟩) (by assumption) ?rest51x5
              case hy51x5 => intro w hSw; go_simp <;> with_reducible rfl
              simp only [Act.put, List.getElem_toArray, List.getElem_cons_zero, List.getElem_cons_succ, List.setIfInBounds_toArray, List.set_cons_zero, List.set_cons_succ]
              refine wpAnyH_take (i := 6) (v := ?v52x6) rfl (by kernel_rfl) (by kernel_rfl) (by kernel_rfl) (fun _ _ _ h => h) (Or.inl ⟨by rfl, ?hy52x6⟩) (by assumption) ?rest52x6
              case hy52x6 => intro w hSw; go_simp <;> with_reducible rfl
              simp only [Act.put, List.getElem_toArray, List.getElem_cons_zero, List.getElem_cons_succ, List.setIfInBounds_toArray, List.set_cons_zero, List.set_cons_succ]
              refine wpAnyH_take (i := 7) (v := ?v53x7) rfl (by kernel_rfl) (by kernel_rfl) (by kernel_rfl) (fun _ _ _ h => h) (Or.inl ⟨by rfl, ?hy53x7⟩) (by assumption) ?rest53x7
              case hy53x7 => intro w hSw; go_simp <;> with_reducible rfl
              simp only [Act.put, List.getElem_toArray, List.getElem_cons_zero, List.getElem_cons_succ, List.setIfInBounds_toArray, List.set_cons_zero, List.set_cons_succ]
              refine wpAnyH_take (i := 8) (v := (.agg #[.int .i32 d, .int .i64 f])) rfl (by kernel_rfl) (by kernel_rfl) (by kernel_rfl) (fun _ _ _ h => h) (Or.inl ⟨by rfl, ?hy54x8⟩) (by assumption) ?rest54x8
              case hy54x8 => intro w hSw; obtain ⟨s1, s2⟩ := unhide HCD _ hSw; go_simp <;> with_reducible rfl
              simp only [Act.put, List.getElem_toArray, List.getElem_cons_zero, List.getElem_cons_succ, List.setIfInBounds_toArray, List.set_cons_zero, List.set_cons_succ]
              refine wpAnyH_take (i := 9) (v := ?v55x9) rfl (by kernel_rfl) (by kernel_rfl) (by kernel_rfl) (fun _ _ _ h => h) (Or.inl ⟨by rfl, ?hy55x9⟩) (by assumption) ?rest55x9
              case hy55x9 => intro w hSw; go_simp <;> with_reducible rfl
              simp only [Act.put, List.getElem_toArray, List.getElem_cons_zero, List.getElem_cons_succ, List.setIfInBounds_toArray, List.set_cons_zero, List.set_cons_succ]
              refine wpAnyH_take (i := 10) (v := ?v56x10) rfl (by kernel_rfl) (by kernel_rfl) (by kernel_rfl) (fun _ _ _ h => h) (Or.inl ⟨by rfl, ?hy56x10⟩) (by assumption) ?rest56x10
              case hy56x10 => intro w hSw; go_simp <;> with_reducible rfl
              simp only [Act.put, List.getElem_toArray, List.getElem_cons_zero, List.getElem_cons_succ, List.setIfInBounds_toArray, List.set_cons_zero, List.set_cons_succ]
              refine wpAnyH_take (i := 11) (v := ?v57x11) rfl (by kernel_rfl) (by kernel_rfl) (by kernel_rfl) (fun _ _ _ h => h) (Or.inl ⟨by rfl, ?hy57x11⟩) (by assumption) ?rest57x11
              case hy57x11 => intro w hSw; go_simp <;> with_reducible rfl
              simp only [Act.put, List.getElem_toArray, List.getElem_cons_zero, List.getElem_cons_succ, List.setIfInBounds_toArray, List.set_cons_zero, List.set_cons_succ]
              refine wpAnyH_take (i := 12) (v := (.agg #[.int .i32 a, .int .i64 b])) rfl (by kernel_rfl) (by kernel_rfl) (by kernel_rfl) (fun _ _ _ h => h) (Or.inl ⟨by rfl, ?hy58x12⟩) (by assumption) ?rest58x12
              case hy58x12 => intro w hSw; obtain ⟨s1, s2⟩ := unhide HCX _ hSw; go_simp <;> with_reducible rfl
              simp only [Act.put, List.getElem_toArray, List.getElem_cons_zero, List.getElem_cons_succ, List.setIfInBounds_toArray, List.set_cons_zero, List.set_cons_succ]
              refine wpAnyH_take (i := 13) (v := (.bool false)) rfl (by kernel_rfl) (by kernel_rfl) (by kernel_rfl) (fun _ _ _ h => h) (Or.inl ⟨by rfl, ?hy59x13⟩) (by assumption) ?rest59x13
              case hy59x13 => intro w hSw; go_simp <;> with_reducible rfl
              simp only [Act.put, List.getElem_toArray, List.getElem_cons_zero, List.getElem_cons_succ, List.setIfInBounds_toArray, List.set_cons_zero, List.set_cons_succ]
              refine wpAnyH_take (i := 14) (v := (.bool false)) rfl (by kernel_rfl) (by kernel_rfl) (by kernel_rfl) (fun _ _ _ h => h) (Or.inl ⟨by rfl, ?hy60x14⟩) (by assumption) ?rest60x14
              case hy60x14 => intro w hSw; go_simp <;> with_reducible rfl
              simp only [Act.put, List.getElem_toArray, List.getElem_cons_zero, List.getElem_cons_succ, List.setIfInBounds_toArray, List.set_cons_zero, List.set_cons_succ]
              refine wpAnyH_done (by kernel_rfl) ?_ _
              clear hE hqd hnd hneg heq hHeld
              obtain ⟨xx, hxx⟩ : ∃ x : World, x = wq.drew := ⟨_, rfl⟩
              have HB2 : Hid (Below wo.heap.size wo xx) := hxx ▸ (unhide HB1).drew
              rw [← hxx]
              clear hxx
              have hXX : Below wo.heap.size wo xx := unhide HB2
              have hsX := (unhide HSD).below kC_len hXX
              have hml : m < 8796093022208 := by omega
              obtain ⟨a1, c1, z1, r1, o1, b1⟩ := insK1 (Z := xx.drew) (j := j) hsX hj hml
              obtain ⟨a2, c2, z2, r2, o2, b2⟩ := insK2 (Z := xx.drew) (Y := z1.alloc (.cells #[.int .i32 a, .int .i64 b] 37)) (x := (a, b)) (own_below o1 (below_box _)) (b1.trans ((below_box _).mono b1.size)) (sees_oneK z1 (a, b)) (by omega)
              obtain ⟨a3, c3, z3, r3, o3, b3⟩ := insK3 (Z := xx.drew) (j := j) o2 b2 hsX hj (by omega)
              have hsB : SeesL kC 2 (xx.alloc (.cells #[.int .i32 a, .int .i64 b] 37)).drew (.slice (some ⟨gd, od, none⟩) m oc) D := hsX.below kC_len ((below_box _).drew)
              obtain ⟨e1, f1, y1, q1, p1, g1⟩ := insK1 (Z := (xx.alloc (.cells #[.int .i32 a, .int .i64 b] 37)).drew) (j := j) hsB hj hml
              obtain ⟨e2, f2, y2, q2, p2, g2⟩ := insK2 (Z := (xx.alloc (.cells #[.int .i32 a, .int .i64 b] 37)).drew) (vx := .slice (some ⟨xx.heap.size, 0, none⟩) 1 1) (x := (a, b)) p1 g1 (((sees_oneK xx (a, b)).below kC_len ((Below.refl _ _).drew)).below kC_len g1) (by omega)
              obtain ⟨e3, f3, y3, q3, p3, g3⟩ := insK3 (Z := (xx.alloc (.cells #[.int .i32 a, .int .i64 b] 37)).drew) (j := j) p2 g2 hsB hj (by omega)
              have hins : srt (l.take (t + 1)) = D.take j ++ [(a, b)] ++ D.drop j := by
                have h := insK_plc (a, b) D
                rw [← unhide HPL, if_neg (unhide HNX)] at h
                rw [unhide HDD, h]
                simp
              have hinl : (srt (l.take (t + 1))).length = j + 1 + (m - j) := by
                rw [hins]
                have := unhide HM
                simp only [List.length_append, List.length_take, List.length_drop, List.length_cons, List.length_nil]
                omega
              have hXs := hXX.size
              have HRA : Hid (z3.ownsRow w.heap.size 37 2 (.slice a3 (j + 1 + (m - j)) c3) (srt (l.take (t + 1))).length ((srt (l.take (t + 1))).flatMap kC) ∧ Below w.heap.size w z3) := by
                rw [hinl, hins]
                have hb0 := unhide HBW
                exact ⟨own_mono o3 (Nat.le_trans hb0.size hXs), hb0.trans ((hXX.drew.mono hb0.size).trans (b3.mono (Nat.le_trans hb0.size hXs)))⟩
              have HRB : Hid (y3.ownsRow w.heap.size 37 2 (.slice e3 (j + 1 + (m - j)) f3) (srt (l.take (t + 1))).length ((srt (l.take (t + 1))).flatMap kC) ∧ Below w.heap.size w y3) := by
                rw [hinl, hins]
                have hb0 := unhide HBW
                have hle : w.heap.size ≤ (xx.alloc (.cells #[.int .i32 a, .int .i64 b] 37)).drew.heap.size := Nat.le_trans hb0.size (Nat.le_trans hXs (below_box _).size)
                exact ⟨own_mono p3 hle, hb0.trans ((hXX.mono hb0.size).trans ((((below_box _).drew).mono (Nat.le_trans hb0.size hXs)).trans (g3.mono hle)))⟩
              have HW1 : Hid (Below wo.heap.size wo z1 ∧ Below wo.heap.size wo (z1.alloc (.cells #[.int .i32 a, .int .i64 b] 37)) ∧ Below wo.heap.size wo z2 ∧ Below wo.heap.size wo z3) := by
                have k1 : Below wo.heap.size wo z1 := hXX.drew.trans (b1.mono hXs)
                exact ⟨k1, k1.alloc k1.size _, hXX.drew.trans (b2.mono hXs), hXX.drew.trans (b3.mono hXs)⟩
              have HW2 : Hid (Below wo.heap.size wo (xx.alloc (.cells #[.int .i32 a, .int .i64 b] 37)).drew ∧ Below wo.heap.size wo y1 ∧ Below wo.heap.size wo y2 ∧ Below wo.heap.size wo y3) := by
                have k0 : Below wo.heap.size wo (xx.alloc (.cells #[.int .i32 a, .int .i64 b] 37)).drew := (hXX.alloc hXs _).drew
                exact ⟨k0, k0.trans (g1.mono k0.size), k0.trans (g2.mono k0.size), k0.trans (g3.mono k0.size)⟩
              have HXX := hide hXX
              have hjoc : j ≤ oc := by omega
              have hTK := tail_keys (some ⟨gd, od, none⟩) m oc j hj
              have hHK := head_keys (some ⟨gd, od, none⟩) m oc j hjoc
              obtain ⟨tl, htl⟩ : ∃ v : Option Addr, (if oc = j then (some ⟨gd, od, none⟩) else ((some ⟨gd, od, none⟩) : Option Addr).map (·.add (j * 2))) = v := ⟨_, rfl⟩
              obtain ⟨md, hmd⟩ : ∃ v : Nat, m - j = v := ⟨_, rfl⟩
              obtain ⟨cd, hcd⟩ : ∃ v : Nat, oc - j = v := ⟨_, rfl⟩
              rw [htl, hmd, hcd] at r3 q3 hTK
              rw [hmd] at HRA HRB
              have HTK := hide hTK
              have HHK := hide hHK
              clear htl hmd hcd hTK hHK
              clear hsX hsB o1 b1 o2 b2 o3 b3 p1 g1 p2 g2 p3 g3 hins hinl hXX hXs
              go_wp2_with fail
              refine wp_region_held_drew (S := fun x => Below wo.heap.size wo x) (by kernel_rfl) (unhide HXX).drew (fun hHeld => ?_)
              refine wpAnyH_take (i := 0) (v := ?v61x0) rfl (by kernel_rfl) (by kernel_rfl) (by kernel_rfl) (fun _ _ _ h => h) (Or.inl ⟨by rfl, ?hy61x0⟩) (by assumption) ?rest61x0
              case hy61x0 => intro w hSw; go_simp <;> with_reducible rfl
              simp only [Act.put, List.getElem_toArray, List.getElem_cons_zero, List.setIfInBounds_toArray, List.set_cons_zero, List.set_cons_succ]
              refine wpAnyH_take (i := 1) (v := ?v62x1) rfl (by kernel_rfl) (by kernel_rfl) (by kernel_rfl) (fun _ _ _ h => h) (Or.inl ⟨by rfl, ?hy62x1⟩) (by assumption) ?rest62x1
              case hy62x1 => intro w hSw; go_simp <;> with_reducible rfl
              simp only [Act.put, List.getElem_toArray, List.getElem_cons_zero, List.getElem_cons_succ, List.setIfInBounds_toArray, List.set_cons_zero, List.set_cons_succ]
              refine wpAnyH_take (i := 2) (v := ?v63x2) rfl (by kernel_rfl) (by kernel_rfl) (by kernel_rfl) (fun _ _ _ h => h) (Or.inl ⟨by rfl, ?hy63x2⟩) (by assumption) ?rest63x2
              case hy63x2 => intro w hSw; go_simp <;> with_reducible rfl
              simp only [Act.put, List.getElem_toArray, List.getElem_cons_zero, List.getElem_cons_succ, List.setIfInBounds_toArray, List.set_cons_zero, List.set_cons_succ]
              refine wpAnyH_take (i := 3) (v := (.slice (some ⟨gd, od, none⟩) j oc)) rfl (by kernel_rfl) (by kernel_rfl) (by kernel_rfl) (fun _ _ _ h => h) (Or.inl ⟨by rfl, ?hy64x3⟩) (by assumption) ?rest64x3
              case hy64x3 => intro w hSw; exact run_sliceE Try.underlying24 rfl rfl (unhide HHK w)
              simp only [Act.put, List.getElem_toArray, List.getElem_cons_zero, List.getElem_cons_succ, List.setIfInBounds_toArray, List.set_cons_zero, List.set_cons_succ]
              refine wpAnyH_take (i := 5) (v := ?v65x5) rfl (by kernel_rfl) (by kernel_rfl) (by kernel_rfl) (fun _ _ _ h => h) (Or.inl ⟨by rfl, ?hy65x5⟩) (by assumption) ?rest65x5
              case hy65x5 => intro w hSw; go_simp <;> with_reducible rfl
              simp only [Act.put, List.getElem_toArray, List.getElem_cons_zero, List.getElem_cons_succ, List.setIfInBounds_toArray, List.set_cons_zero, List.set_cons_succ]
              refine wpAnyH_take (i := 6) (v := ?v66x6) rfl (by kernel_rfl) (by kernel_rfl) (by kernel_rfl) (fun _ _ _ h => h) (Or.inl ⟨by rfl, ?hy66x6⟩) (by assumption) ?rest66x6
              case hy66x6 => intro w hSw; go_simp <;> with_reducible rfl
              simp only [Act.put, List.getElem_toArray, List.getElem_cons_zero, List.getElem_cons_succ, List.setIfInBounds_toArray, List.set_cons_zero, List.set_cons_succ]
              refine wpAnyH_take (i := 7) (v := ?v67x7) rfl (by kernel_rfl) (by kernel_rfl) (by kernel_rfl) (fun _ _ _ h => h) (Or.inl ⟨by rfl, ?hy67x7⟩) (by assumption) ?rest67x7
              case hy67x7 => intro w hSw; go_simp <;> with_reducible rfl
              simp only [Act.put, List.getElem_toArray, List.getElem_cons_zero, List.getElem_cons_succ, List.setIfInBounds_toArray, List.set_cons_zero, List.set_cons_succ]
              refine wpAnyH_take (i := 8) (v := (.agg #[.int .i32 a, .int .i64 b])) rfl (by kernel_rfl) (by kernel_rfl) (by kernel_rfl) (fun _ _ _ h => h) (Or.inl ⟨by rfl, ?hy68x8⟩) (by assumption) ?rest68x8
              case hy68x8 => intro w hSw; obtain ⟨s1, s2⟩ := unhide HCX _ hSw; go_simp <;> with_reducible rfl
              simp only [Act.put, List.getElem_toArray, List.getElem_cons_zero, List.getElem_cons_succ, List.setIfInBounds_toArray, List.set_cons_zero, List.set_cons_succ]
              refine wpAnyH_take (i := 11) (v := ?v69x11) rfl (by kernel_rfl) (by kernel_rfl) (by kernel_rfl) (fun _ _ _ h => h) (Or.inl ⟨by rfl, ?hy69x11⟩) (by assumption) ?rest69x11
              case hy69x11 => intro w hSw; go_simp <;> with_reducible rfl
              simp only [Act.put, List.getElem_toArray, List.getElem_cons_zero, List.getElem_cons_succ, List.setIfInBounds_toArray, List.set_cons_zero, List.set_cons_succ]
              refine wpAnyH_take (i := 12) (v := ?v70x12) rfl (by kernel_rfl) (by kernel_rfl) (by kernel_rfl) (fun _ _ _ h => h) (Or.inl ⟨by rfl, ?hy70x12⟩) (by assumption) ?rest70x12
              case hy70x12 => intro w hSw; go_simp <;> with_reducible rfl
              simp only [Act.put, List.getElem_toArray, List.getElem_cons_zero, List.getElem_cons_succ, List.setIfInBounds_toArray, List.set_cons_zero, List.set_cons_succ]
              refine wpAnyH_take (i := 13) (v := (.slice tl md cd)) rfl (by kernel_rfl) (by kernel_rfl) (by kernel_rfl) (fun _ _ _ h => h) (Or.inl ⟨by rfl, ?hy71x13⟩) (by assumption) ?rest71x13
              case hy71x13 => intro w hSw; exact run_sliceE Try.underlying24 rfl rfl (unhide HTK w)
              simp only [Act.put, List.getElem_toArray, List.getElem_cons_zero, List.getElem_cons_succ, List.setIfInBounds_toArray, List.set_cons_zero, List.set_cons_succ]
              refine wpAnyH_ready (rs := [4, 9]) (by kernel_rfl) (by simp) ?_
              refine AllReadyH.cons rfl (fun K hK => ?_) (AllReadyH.cons rfl (fun K hK => ?_) AllReadyH.nil)
              · rw [if_pos (by rfl)]
                refine append_upon rfl rfl rfl r1 ?_
                simp only [Act.put, List.getElem_toArray, List.getElem_cons_zero, List.getElem_cons_succ, List.setIfInBounds_toArray, List.set_cons_zero, List.set_cons_succ]
                refine hK _ _ (unhide HW1).1 ?_
                clear hK hHeld
                intro hHeld
                refine wpAnyH_ready (rs := [9]) (by kernel_rfl) (by simp) ?_
                refine AllReadyH.cons rfl (fun K hK => ?_) AllReadyH.nil
                go_simp
                refine hK _ _ (unhide HW1).2.1 ?_
                clear hK hHeld
                intro hHeld
                refine wpAnyH_ready (rs := [10]) (by kernel_rfl) (by simp) ?_
                refine AllReadyH.cons rfl (fun K hK => ?_) AllReadyH.nil
                rw [if_pos (by rfl)]
                refine append_upon rfl rfl rfl r2 ?_
                simp only [Act.put, List.getElem_toArray, List.getElem_cons_zero, List.getElem_cons_succ, List.setIfInBounds_toArray, List.set_cons_zero, List.set_cons_succ]
                refine hK _ _ (unhide HW1).2.2.1 ?_
                clear hK hHeld
                intro hHeld
                refine wpAnyH_ready (rs := [14]) (by kernel_rfl) (by simp) ?_
                refine AllReadyH.cons rfl (fun K hK => ?_) AllReadyH.nil
                rw [if_pos (by rfl)]
                refine append_upon rfl rfl rfl r3 ?_
                simp only [Act.put, List.getElem_toArray, List.getElem_cons_zero, List.getElem_cons_succ, List.setIfInBounds_toArray, List.set_cons_zero, List.set_cons_succ]
                refine hK _ _ (unhide HW1).2.2.2 ?_
                clear hK hHeld
                intro hHeld
                refine wpAnyH_take (i := 15) (v := ?v72x15) rfl (by kernel_rfl) (by kernel_rfl) (by kernel_rfl) (fun _ _ _ h => h) (Or.inl ⟨by rfl, ?hy72x15⟩) (by assumption) ?rest72x15
                case hy72x15 => intro w hSw; go_simp <;> with_reducible rfl
                simp only [Act.put, List.getElem_toArray, List.getElem_cons_zero, List.getElem_cons_succ, List.setIfInBounds_toArray, List.set_cons_zero, List.set_cons_succ]
                refine wpAnyH_done (by kernel_rfl) ?_ _
                go_wp2
                go_roundw
                case rel => exact ⟨t + 1, by omega, by go_num, unhide HRA⟩
                case measure => simp [intOf]; omega
              · go_simp
                refine hK _ _ (unhide HW2).1 ?_
                clear hK hHeld
                intro hHeld
                refine wpAnyH_ready (rs := [4]) (by kernel_rfl) (by simp) ?_
                refine AllReadyH.cons rfl (fun K hK => ?_) AllReadyH.nil
                rw [if_pos (by rfl)]
                refine append_upon rfl rfl rfl q1 ?_
                simp only [Act.put, List.getElem_toArray, List.getElem_cons_zero, List.getElem_cons_succ, List.setIfInBounds_toArray, List.set_cons_zero, List.set_cons_succ]
                refine hK _ _ (unhide HW2).2.1 ?_
                clear hK hHeld
                intro hHeld
                refine wpAnyH_ready (rs := [10]) (by kernel_rfl) (by simp) ?_
                refine AllReadyH.cons rfl (fun K hK => ?_) AllReadyH.nil
                rw [if_pos (by rfl)]
                refine append_upon rfl rfl rfl q2 ?_
                simp only [Act.put, List.getElem_toArray, List.getElem_cons_zero, List.getElem_cons_succ, List.setIfInBounds_toArray, List.set_cons_zero, List.set_cons_succ]
                refine hK _ _ (unhide HW2).2.2.1 ?_
                clear hK hHeld
                intro hHeld
                refine wpAnyH_ready (rs := [14]) (by kernel_rfl) (by simp) ?_
                refine AllReadyH.cons rfl (fun K hK => ?_) AllReadyH.nil
                rw [if_pos (by rfl)]
                refine append_upon rfl rfl rfl q3 ?_
                simp only [Act.put, List.getElem_toArray, List.getElem_cons_zero, List.getElem_cons_succ, List.setIfInBounds_toArray, List.set_cons_zero, List.set_cons_succ]
                refine hK _ _ (unhide HW2).2.2.2 ?_
                clear hK hHeld
                intro hHeld
                refine wpAnyH_take (i := 15) (v := ?v73x15) rfl (by kernel_rfl) (by kernel_rfl) (by kernel_rfl) (fun _ _ _ h => h) (Or.inl ⟨by rfl, ?hy73x15⟩) (by assumption) ?rest73x15
                case hy73x15 => intro w hSw; go_simp <;> with_reducible rfl
                simp only [Act.put, List.getElem_toArray, List.getElem_cons_zero, List.getElem_cons_succ, List.setIfInBounds_toArray, List.set_cons_zero, List.set_cons_succ]
                refine wpAnyH_done (by kernel_rfl) ?_ _
                go_wp2
                go_roundw
                case rel => exact ⟨t + 1, by omega, by go_num, unhide HRB⟩
                case measure => simp [intOf]; omega
        · obtain rfl : j = m := by omega
          have hmd := unhide HM
          have hplc : j = plc (a, b) D := plc_unique (by omega) (unhide HAL) (fun x hx => by rw [List.getElem?_eq_none (by omega)] at hx; cases hx)
          have HPL := hide hplc
          have HNX : Hid (¬ D[j]? = some (a, b)) := fun c => by rw [List.getElem?_eq_none (by omega)] at c; cases c
          clear hplc hmd hall hbi
          have hjd : decide ((j : Int) < (j : Int)) = false := by simp
          go_wp2_with fail
          refine wp_region_held_drew (S := fun x => Below wo.heap.size wo x) (by kernel_rfl) (unhide HBI).drew (fun hHeld => ?_)
          refine wpAnyH_take (i := 0) (v := ?v74x0) rfl (by kernel_rfl) (by kernel_rfl) (by kernel_rfl) (fun _ _ _ h => h) (Or.inl ⟨by rfl, ?hy74x0⟩) (by assumption) ?rest74x0
          case hy74x0 => intro w hSw; go_simp <;> with_reducible rfl
          simp only [Act.put, List.getElem_toArray, List.getElem_cons_zero, List.setIfInBounds_toArray, List.set_cons_zero, List.set_cons_succ]
          refine wpAnyH_take (i := 1) (v := ?v75x1) rfl (by kernel_rfl) (by kernel_rfl) (by kernel_rfl) (fun _ _ _ h => h) (Or.inl ⟨by rfl, ?hy75x1⟩) (by assumption) ?rest75x1
          case hy75x1 => intro w hSw; go_simp <;> with_reducible rfl
          simp only [Act.put, List.getElem_toArray, List.getElem_cons_zero, List.getElem_cons_succ, List.setIfInBounds_toArray, List.set_cons_zero, List.set_cons_succ]
          refine wpAnyH_take (i := 2) (v := ?v76x2) rfl (by kernel_rfl) (by kernel_rfl) (by kernel_rfl) (fun _ _ _ h => h) (Or.inl ⟨by rfl, ?hy76x2⟩) (by assumption) ?rest76x2
          case hy76x2 => intro w hSw; go_simp <;> with_reducible rfl
          simp only [Act.put, List.getElem_toArray, List.getElem_cons_zero, List.getElem_cons_succ, List.setIfInBounds_toArray, List.set_cons_zero, List.set_cons_succ]
          refine wpAnyH_take (i := 3) (v := (.bool false)) rfl (by kernel_rfl) (by kernel_rfl) (by kernel_rfl) (fun _ _ _ h => h) (Or.inl ⟨by rfl, ?hy77x3⟩) (by assumption) ?rest77x3
          case hy77x3 => intro w hSw; go_simp <;> with_reducible rfl
          simp only [Act.put, List.getElem_toArray, List.getElem_cons_zero, List.getElem_cons_succ, List.setIfInBounds_toArray, List.set_cons_zero, List.set_cons_succ]
          refine wpAnyH_take (i := 4) (v := (.bool false)) rfl (by kernel_rfl) (by kernel_rfl) (by kernel_rfl) (fun _ _ _ h => h) (Or.inl ⟨by rfl, ?hy78x4⟩) (by assumption) ?rest78x4
          case hy78x4 => intro w hSw; go_simp <;> with_reducible rfl
          simp only [Act.put, List.getElem_toArray, List.getElem_cons_zero, List.getElem_cons_succ, List.setIfInBounds_toArray, List.set_cons_zero, List.set_cons_succ]
          refine wpAnyH_take (i := 5) (v := undef) rfl (by kernel_rfl) (by kernel_rfl) (by kernel_rfl) (fun _ _ _ h => h) (Or.inr ⟨by rfl, rfl⟩) (by assumption) ?_
          simp only [Act.put, List.getElem_toArray, List.getElem_cons_zero, List.getElem_cons_succ, List.setIfInBounds_toArray, List.set_cons_zero, List.set_cons_succ]
          refine wpAnyH_take (i := 6) (v := undef) rfl (by kernel_rfl) (by kernel_rfl) (by kernel_rfl) (fun _ _ _ h => h) (Or.inr ⟨by rfl, rfl⟩) (by assumption) ?_
          simp only [Act.put, List.getElem_toArray, List.getElem_cons_zero, List.getElem_cons_succ, List.setIfInBounds_toArray, List.set_cons_zero, List.set_cons_succ]
          refine wpAnyH_take (i := 7) (v := undef) rfl (by kernel_rfl) (by kernel_rfl) (by kernel_rfl) (fun _ _ _ h => h) (Or.inr ⟨by rfl, rfl⟩) (by assumption) ?_
          simp only [Act.put, List.getElem_toArray, List.getElem_cons_zero, List.getElem_cons_succ, List.setIfInBounds_toArray, List.set_cons_zero, List.set_cons_succ]
          refine wpAnyH_take (i := 8) (v := undef) rfl (by kernel_rfl) (by kernel_rfl) (by kernel_rfl) (fun _ _ _ h => h) (Or.inr ⟨by rfl, rfl⟩) (by assumption) ?_
          simp only [Act.put, List.getElem_toArray, List.getElem_cons_zero, List.getElem_cons_succ, List.setIfInBounds_toArray, List.set_cons_zero, List.set_cons_succ]
          refine wpAnyH_take (i := 9) (v := undef) rfl (by kernel_rfl) (by kernel_rfl) (by kernel_rfl) (fun _ _ _ h => h) (Or.inr ⟨by rfl, rfl⟩) (by assumption) ?_
          simp only [Act.put, List.getElem_toArray, List.getElem_cons_zero, List.getElem_cons_succ, List.setIfInBounds_toArray, List.set_cons_zero, List.set_cons_succ]
          refine wpAnyH_take (i := 10) (v := undef) rfl (by kernel_rfl) (by kernel_rfl) (by kernel_rfl) (fun _ _ _ h => h) (Or.inr ⟨by rfl, rfl⟩) (by assumption) ?_
          simp only [Act.put, List.getElem_toArray, List.getElem_cons_zero, List.getElem_cons_succ, List.setIfInBounds_toArray, List.set_cons_zero, List.set_cons_succ]
          refine wpAnyH_take (i := 11) (v := undef) rfl (by kernel_rfl) (by kernel_rfl) (by kernel_rfl) (fun _ _ _ h => h) (Or.inr ⟨by rfl, rfl⟩) (by assumption) ?_
          simp only [Act.put, List.getElem_toArray, List.getElem_cons_zero, List.getElem_cons_succ, List.setIfInBounds_toArray, List.set_cons_zero, List.set_cons_succ]
          refine wpAnyH_take (i := 12) (v := undef) rfl (by kernel_rfl) (by kernel_rfl) (by kernel_rfl) (fun _ _ _ h => h) (Or.inr ⟨by rfl, rfl⟩) (by assumption) ?_
          simp only [Act.put, List.getElem_toArray, List.getElem_cons_zero, List.getElem_cons_succ, List.setIfInBounds_toArray, List.set_cons_zero, List.set_cons_succ]
          refine wpAnyH_take (i := 13) (v := undef) rfl (by kernel_rfl) (by kernel_rfl) (by kernel_rfl) (fun _ _ _ h => h) (Or.inr ⟨by rfl, rfl⟩) (by assumption) ?_
          simp only [Act.put, List.getElem_toArray, List.getElem_cons_zero, List.getElem_cons_succ, List.setIfInBounds_toArray, List.set_cons_zero, List.set_cons_succ]
          refine wpAnyH_take (i := 14) (v := undef) rfl (by kernel_rfl) (by kernel_rfl) (by kernel_rfl) (fun _ _ _ h => h) (Or.inr ⟨by rfl, rfl⟩) (by assumption) ?_
          simp only [Act.put, List.getElem_toArray, List.getElem_cons_zero, List.getElem_cons_succ, List.setIfInBounds_toArray, List.set_cons_zero, List.set_cons_succ]
          refine wpAnyH_take (i := 15) (v := (.bool false)) rfl (by kernel_rfl) (by kernel_rfl) (by kernel_rfl) (fun _ _ _ h => h) (Or.inl ⟨by rfl, ?hy89x15⟩) (by assumption) ?rest89x15
          case hy89x15 => intro w hSw; go_simp <;> with_reducible rfl
          simp only [Act.put, List.getElem_toArray, List.getElem_cons_zero, List.getElem_cons_succ, List.setIfInBounds_toArray, List.set_cons_zero, List.set_cons_succ]
          refine wpAnyH_done (by kernel_rfl) ?_ _
          go_wp2_with fail
          refine wp_region_held_drew (S := fun x => Below wo.heap.size wo x) (by kernel_rfl) (unhide HBI).drew.drew (fun hHeld => ?_)
          refine wpAnyH_take (i := 0) (v := ?v90x0) rfl (by kernel_rfl) (by kernel_rfl) (by kernel_rfl) (fun _ _ _ h => h) (Or.inl ⟨by rfl, ?hy90x0⟩) (by assumption) ?rest90x0
          case hy90x0 => intro w hSw; go_simp <;> with_reducible rfl
          simp only [Act.put, List.getElem_toArray, List.getElem_cons_zero, List.setIfInBounds_toArray, List.set_cons_zero, List.set_cons_succ]
          refine wpAnyH_take (i := 1) (v := ?v91x1) rfl (by kernel_rfl) (by kernel_rfl) (by kernel_rfl) (fun _ _ _ h => h) (Or.inl ⟨by rfl, ?hy91x1⟩) (by assumption) ?rest91x1
          case hy91x1 => intro w hSw; go_simp <;> with_reducible rfl
          simp only [Act.put, List.getElem_toArray, List.getElem_cons_zero, List.getElem_cons_succ, List.setIfInBounds_toArray, List.set_cons_zero, List.set_cons_succ]
          refine wpAnyH_take (i := 2) (v := ?v92x2) rfl (by kernel_rfl) (by kernel_rfl) (by kernel_rfl) (fun _ _ _ h => h) (Or.inl ⟨by rfl, ?hy92x2⟩) (by assumption) ?rest92x2
          case hy92x2 => intro w hSw; go_simp <;> with_reducible rfl
          simp only [Act.put, List.getElem_toArray, List.getElem_cons_zero, List.getElem_cons_succ, List.setIfInBounds_toArray, List.set_cons_zero, List.set_cons_succ]
          refine wpAnyH_take (i := 3) (v := (.bool false)) rfl (by kernel_rfl) (by kernel_rfl) (by kernel_rfl) (fun _ _ _ h => h) (Or.inl ⟨by rfl, ?hy93x3⟩) (by assumption) ?rest93x3
          case hy93x3 => intro w hSw; go_simp <;> with_reducible rfl
          simp only [Act.put, List.getElem_toArray, List.getElem_cons_zero, List.getElem_cons_succ, List.setIfInBounds_toArray, List.set_cons_zero, List.set_cons_succ]
          refine wpAnyH_take (i := 4) (v := (.bool false)) rfl (by kernel_rfl) (by kernel_rfl) (by kernel_rfl) (fun _ _ _ h => h) (Or.inl ⟨by rfl, ?hy94x4⟩) (by assumption) ?rest94x4
          case hy94x4 => intro w hSw; go_simp <;> with_reducible rfl
          simp only [Act.put, List.getElem_toArray, List.getElem_cons_zero, List.getElem_cons_succ, List.setIfInBounds_toArray, List.set_cons_zero, List.set_cons_succ]
          refine wpAnyH_take (i := 5) (v := undef) rfl (by kernel_rfl) (by kernel_rfl) (by kernel_rfl) (fun _ _ _ h => h) (Or.inr ⟨by rfl, rfl⟩) (by assumption) ?_
          simp only [Act.put, List.getElem_toArray, List.getElem_cons_zero, List.getElem_cons_succ, List.setIfInBounds_toArray, List.set_cons_zero, List.set_cons_succ]
          refine wpAnyH_take (i := 6) (v := undef) rfl (by kernel_rfl) (by kernel_rfl) (by kernel_rfl) (fun _ _ _ h => h) (Or.inr ⟨by rfl, rfl⟩) (by assumption) ?_
          simp only [Act.put, List.getElem_toArray, List.getElem_cons_zero, List.getElem_cons_succ, List.setIfInBounds_toArray, List.set_cons_zero, List.set_cons_succ]
          refine wpAnyH_take (i := 7) (v := undef) rfl (by kernel_rfl) (by kernel_rfl) (by kernel_rfl) (fun _ _ _ h => h) (Or.inr ⟨by rfl, rfl⟩) (by assumption) ?_
          simp only [Act.put, List.getElem_toArray, List.getElem_cons_zero, List.getElem_cons_succ, List.setIfInBounds_toArray, List.set_cons_zero, List.set_cons_succ]
          refine wpAnyH_take (i := 8) (v := undef) rfl (by kernel_rfl) (by kernel_rfl) (by kernel_rfl) (fun _ _ _ h => h) (Or.inr ⟨by rfl, rfl⟩) (by assumption) ?_
          simp only [Act.put, List.getElem_toArray, List.getElem_cons_zero, List.getElem_cons_succ, List.setIfInBounds_toArray, List.set_cons_zero, List.set_cons_succ]
          refine wpAnyH_take (i := 9) (v := undef) rfl (by kernel_rfl) (by kernel_rfl) (by kernel_rfl) (fun _ _ _ h => h) (Or.inr ⟨by rfl, rfl⟩) (by assumption) ?_
          simp only [Act.put, List.getElem_toArray, List.getElem_cons_zero, List.getElem_cons_succ, List.setIfInBounds_toArray, List.set_cons_zero, List.set_cons_succ]
          refine wpAnyH_take (i := 10) (v := undef) rfl (by kernel_rfl) (by kernel_rfl) (by kernel_rfl) (fun _ _ _ h => h) (Or.inr ⟨by rfl, rfl⟩) (by assumption) ?_
          simp only [Act.put, List.getElem_toArray, List.getElem_cons_zero, List.getElem_cons_succ, List.setIfInBounds_toArray, List.set_cons_zero, List.set_cons_succ]
          refine wpAnyH_take (i := 11) (v := undef) rfl (by kernel_rfl) (by kernel_rfl) (by kernel_rfl) (fun _ _ _ h => h) (Or.inr ⟨by rfl, rfl⟩) (by assumption) ?_
          simp only [Act.put, List.getElem_toArray, List.getElem_cons_zero, List.getElem_cons_succ, List.setIfInBounds_toArray, List.set_cons_zero, List.set_cons_succ]
          refine wpAnyH_take (i := 12) (v := undef) rfl (by kernel_rfl) (by kernel_rfl) (by kernel_rfl) (fun _ _ _ h => h) (Or.inr ⟨by rfl, rfl⟩) (by assumption) ?_
          simp only [Act.put, List.getElem_toArray, List.getElem_cons_zero, List.getElem_cons_succ, List.setIfInBounds_toArray, List.set_cons_zero, List.set_cons_succ]
          refine wpAnyH_take (i := 13) (v := undef) rfl (by kernel_rfl) (by kernel_rfl) (by kernel_rfl) (fun _ _ _ h => h) (Or.inr ⟨by rfl, rfl⟩) (by assumption) ?_
          simp only [Act.put, List.getElem_toArray, List.getElem_cons_zero, List.getElem_cons_succ, List.setIfInBounds_toArray, List.set_cons_zero, List.set_cons_succ]
          refine wpAnyH_take (i := 14) (v := (.bool false)) rfl (by kernel_rfl) (by kernel_rfl) (by kernel_rfl) (fun _ _ _ h => h) (Or.inl ⟨by rfl, ?hy104x14⟩) (by assumption) ?rest104x14
          case hy104x14 => intro w hSw; go_simp <;> with_reducible rfl
          simp only [Act.put, List.getElem_toArray, List.getElem_cons_zero, List.getElem_cons_succ, List.setIfInBounds_toArray, List.set_cons_zero, List.set_cons_succ]
          refine wpAnyH_done (by kernel_rfl) ?_ _
          clear hHeld
          obtain ⟨xx, hxx⟩ : ∃ x : World, x = wr.drew.drew := ⟨_, rfl⟩
          have HB2 : Hid (Below wo.heap.size wo xx) := hxx ▸ (unhide HBI).drew.drew
          rw [← hxx]
          clear hxx hjd
          have hXX : Below wo.heap.size wo xx := unhide HB2
          have hsX := (unhide HSD).below kC_len hXX
          have hml : j < 8796093022208 := by omega
          obtain ⟨a1, c1, z1, r1, o1, b1⟩ := insK1 (Z := xx.drew) (j := j) hsX hj hml
          obtain ⟨a2, c2, z2, r2, o2, b2⟩ := insK2 (Z := xx.drew) (Y := z1.alloc (.cells #[.int .i32 a, .int .i64 b] 37)) (x := (a, b)) (own_below o1 (below_box _)) (b1.trans ((below_box _).mono b1.size)) (sees_oneK z1 (a, b)) (by omega)
          obtain ⟨a3, c3, z3, r3, o3, b3⟩ := insK3 (Z := xx.drew) (j := j) o2 b2 hsX hj (by omega)
          have hsB : SeesL kC 2 (xx.alloc (.cells #[.int .i32 a, .int .i64 b] 37)).drew (.slice ov j oc) D := hsX.below kC_len ((below_box _).drew)
          obtain ⟨e1, f1, y1, q1, p1, g1⟩ := insK1 (Z := (xx.alloc (.cells #[.int .i32 a, .int .i64 b] 37)).drew) (j := j) hsB hj hml
          obtain ⟨e2, f2, y2, q2, p2, g2⟩ := insK2 (Z := (xx.alloc (.cells #[.int .i32 a, .int .i64 b] 37)).drew) (vx := .slice (some ⟨xx.heap.size, 0, none⟩) 1 1) (x := (a, b)) p1 g1 (((sees_oneK xx (a, b)).below kC_len ((Below.refl _ _).drew)).below kC_len g1) (by omega)
          obtain ⟨e3, f3, y3, q3, p3, g3⟩ := insK3 (Z := (xx.alloc (.cells #[.int .i32 a, .int .i64 b] 37)).drew) (j := j) p2 g2 hsB hj (by omega)
          have hins : srt (l.take (t + 1)) = D.take j ++ [(a, b)] ++ D.drop j := by
            have h := insK_plc (a, b) D
            rw [← unhide HPL, if_neg (unhide HNX)] at h
            rw [unhide HDD, h]
            simp
          have hinl : (srt (l.take (t + 1))).length = j + 1 + (j - j) := by
            rw [hins]
            have := unhide HM
            simp only [List.length_append, List.length_take, List.length_drop, List.length_cons, List.length_nil]
            omega
          have hXs := hXX.size
          have HRA : Hid (z3.ownsRow w.heap.size 37 2 (.slice a3 (j + 1 + (j - j)) c3) (srt (l.take (t + 1))).length ((srt (l.take (t + 1))).flatMap kC) ∧ Below w.heap.size w z3) := by
            rw [hinl, hins]
            have hb0 := unhide HBW
            exact ⟨own_mono o3 (Nat.le_trans hb0.size hXs), hb0.trans ((hXX.drew.mono hb0.size).trans (b3.mono (Nat.le_trans hb0.size hXs)))⟩
          have HRB : Hid (y3.ownsRow w.heap.size 37 2 (.slice e3 (j + 1 + (j - j)) f3) (srt (l.take (t + 1))).length ((srt (l.take (t + 1))).flatMap kC) ∧ Below w.heap.size w y3) := by
            rw [hinl, hins]
            have hb0 := unhide HBW
            have hle : w.heap.size ≤ (xx.alloc (.cells #[.int .i32 a, .int .i64 b] 37)).drew.heap.size := Nat.le_trans hb0.size (Nat.le_trans hXs (below_box _).size)
            exact ⟨own_mono p3 hle, hb0.trans ((hXX.mono hb0.size).trans ((((below_box _).drew).mono (Nat.le_trans hb0.size hXs)).trans (g3.mono hle)))⟩
          have HW1 : Hid (Below wo.heap.size wo z1 ∧ Below wo.heap.size wo (z1.alloc (.cells #[.int .i32 a, .int .i64 b] 37)) ∧ Below wo.heap.size wo z2 ∧ Below wo.heap.size wo z3) := by
            have k1 : Below wo.heap.size wo z1 := hXX.drew.trans (b1.mono hXs)
            exact ⟨k1, k1.alloc k1.size _, hXX.drew.trans (b2.mono hXs), hXX.drew.trans (b3.mono hXs)⟩
          have HW2 : Hid (Below wo.heap.size wo (xx.alloc (.cells #[.int .i32 a, .int .i64 b] 37)).drew ∧ Below wo.heap.size wo y1 ∧ Below wo.heap.size wo y2 ∧ Below wo.heap.size wo y3) := by
            have k0 : Below wo.heap.size wo (xx.alloc (.cells #[.int .i32 a, .int .i64 b] 37)).drew := (hXX.alloc hXs _).drew
            exact ⟨k0, k0.trans (g1.mono k0.size), k0.trans (g2.mono k0.size), k0.trans (g3.mono k0.size)⟩
          have HXX := hide hXX
          have hjoc : j ≤ oc := by omega
          have hTK := tail_keys ov j oc j hj
          have hHK := head_keys ov j oc j hjoc
          obtain ⟨tl, htl⟩ : ∃ v : Option Addr, (if oc = j then ov else (ov : Option Addr).map (·.add (j * 2))) = v := ⟨_, rfl⟩
          obtain ⟨md, hmd⟩ : ∃ v : Nat, j - j = v := ⟨_, rfl⟩
          obtain ⟨cd, hcd⟩ : ∃ v : Nat, oc - j = v := ⟨_, rfl⟩
          rw [htl, hmd, hcd] at r3 q3 hTK
          rw [hmd] at HRA HRB
          have HTK := hide hTK
          have HHK := hide hHK
          clear htl hmd hcd hTK hHK
          clear hsX hsB o1 b1 o2 b2 o3 b3 p1 g1 p2 g2 p3 g3 hins hinl hXX hXs
          go_wp2_with fail
          refine wp_region_held_drew (S := fun x => Below wo.heap.size wo x) (by kernel_rfl) (unhide HXX).drew (fun hHeld => ?_)
          refine wpAnyH_take (i := 0) (v := ?v105x0) rfl (by kernel_rfl) (by kernel_rfl) (by kernel_rfl) (fun _ _ _ h => h) (Or.inl ⟨by rfl, ?hy105x0⟩) (by assumption) ?rest105x0
          case hy105x0 => intro w hSw; go_simp <;> with_reducible rfl
          simp only [Act.put, List.getElem_toArray, List.getElem_cons_zero, List.setIfInBounds_toArray, List.set_cons_zero, List.set_cons_succ]
          refine wpAnyH_take (i := 1) (v := ?v106x1) rfl (by kernel_rfl) (by kernel_rfl) (by kernel_rfl) (fun _ _ _ h => h) (Or.inl ⟨by rfl, ?hy106x1⟩) (by assumption) ?rest106x1
          case hy106x1 => intro w hSw; go_simp <;> with_reducible rfl
          simp only [Act.put, List.getElem_toArray, List.getElem_cons_zero, List.getElem_cons_succ, List.setIfInBounds_toArray, List.set_cons_zero, List.set_cons_succ]
          refine wpAnyH_take (i := 2) (v := ?v107x2) rfl (by kernel_rfl) (by kernel_rfl) (by kernel_rfl) (fun _ _ _ h => h) (Or.inl ⟨by rfl, ?hy107x2⟩) (by assumption) ?rest107x2
          case hy107x2 => intro w hSw; go_simp <;> with_reducible rfl
          simp only [Act.put, List.getElem_toArray, List.getElem_cons_zero, List.getElem_cons_succ, List.setIfInBounds_toArray, List.set_cons_zero, List.set_cons_succ]
          refine wpAnyH_take (i := 3) (v := (.slice ov j oc)) rfl (by kernel_rfl) (by kernel_rfl) (by kernel_rfl) (fun _ _ _ h => h) (Or.inl ⟨by rfl, ?hy108x3⟩) (by assumption) ?rest108x3
          case hy108x3 => intro w hSw; exact run_sliceE Try.underlying24 rfl rfl (unhide HHK w)
          simp only [Act.put, List.getElem_toArray, List.getElem_cons_zero, List.getElem_cons_succ, List.setIfInBounds_toArray, List.set_cons_zero, List.set_cons_succ]
          refine wpAnyH_take (i := 5) (v := ?v109x5) rfl (by kernel_rfl) (by kernel_rfl) (by kernel_rfl) (fun _ _ _ h => h) (Or.inl ⟨by rfl, ?hy109x5⟩) (by assumption) ?rest109x5
          case hy109x5 => intro w hSw; go_simp <;> with_reducible rfl
          simp only [Act.put, List.getElem_toArray, List.getElem_cons_zero, List.getElem_cons_succ, List.setIfInBounds_toArray, List.set_cons_zero, List.set_cons_succ]
          refine wpAnyH_take (i := 6) (v := ?v110x6) rfl (by kernel_rfl) (by kernel_rfl) (by kernel_rfl) (fun _ _ _ h => h) (Or.inl ⟨by rfl, ?hy110x6⟩) (by assumption) ?rest110x6
          case hy110x6 => intro w hSw; go_simp <;> with_reducible rfl
          simp only [Act.put, List.getElem_toArray, List.getElem_cons_zero, List.getElem_cons_succ, List.setIfInBounds_toArray, List.set_cons_zero, List.set_cons_succ]
          refine wpAnyH_take (i := 7) (v := ?v111x7) rfl (by kernel_rfl) (by kernel_rfl) (by kernel_rfl) (fun _ _ _ h => h) (Or.inl ⟨by rfl, ?hy111x7⟩) (by assumption) ?rest111x7
          case hy111x7 => intro w hSw; go_simp <;> with_reducible rfl
          simp only [Act.put, List.getElem_toArray, List.getElem_cons_zero, List.getElem_cons_succ, List.setIfInBounds_toArray, List.set_cons_zero, List.set_cons_succ]
          refine wpAnyH_take (i := 8) (v := (.agg #[.int .i32 a, .int .i64 b])) rfl (by kernel_rfl) (by kernel_rfl) (by kernel_rfl) (fun _ _ _ h => h) (Or.inl ⟨by rfl, ?hy112x8⟩) (by assumption) ?rest112x8
          case hy112x8 => intro w hSw; obtain ⟨s1, s2⟩ := unhide HCX _ hSw; go_simp <;> with_reducible rfl
          simp only [Act.put, List.getElem_toArray, List.getElem_cons_zero, List.getElem_cons_succ, List.setIfInBounds_toArray, List.set_cons_zero, List.set_cons_succ]
          refine wpAnyH_take (i := 11) (v := ?v113x11) rfl (by kernel_rfl) (by kernel_rfl) (by kernel_rfl) (fun _ _ _ h => h) (Or.inl ⟨by rfl, ?hy113x11⟩) (by assumption) ?rest113x11
          case hy113x11 => intro w hSw; go_simp <;> with_reducible rfl
          simp only [Act.put, List.getElem_toArray, List.getElem_cons_zero, List.getElem_cons_succ, List.setIfInBounds_toArray, List.set_cons_zero, List.set_cons_succ]
          refine wpAnyH_take (i := 12) (v := ?v114x12) rfl (by kernel_rfl) (by kernel_rfl) (by kernel_rfl) (fun _ _ _ h => h) (Or.inl ⟨by rfl, ?hy114x12⟩) (by assumption) ?rest114x12
          case hy114x12 => intro w hSw; go_simp <;> with_reducible rfl
          simp only [Act.put, List.getElem_toArray, List.getElem_cons_zero, List.getElem_cons_succ, List.setIfInBounds_toArray, List.set_cons_zero, List.set_cons_succ]
          refine wpAnyH_take (i := 13) (v := (.slice tl md cd)) rfl (by kernel_rfl) (by kernel_rfl) (by kernel_rfl) (fun _ _ _ h => h) (Or.inl ⟨by rfl, ?hy115x13⟩) (by assumption) ?rest115x13
          case hy115x13 => intro w hSw; exact run_sliceE Try.underlying24 rfl rfl (unhide HTK w)
          simp only [Act.put, List.getElem_toArray, List.getElem_cons_zero, List.getElem_cons_succ, List.setIfInBounds_toArray, List.set_cons_zero, List.set_cons_succ]
          refine wpAnyH_ready (rs := [4, 9]) (by kernel_rfl) (by simp) ?_
          refine AllReadyH.cons rfl (fun K hK => ?_) (AllReadyH.cons rfl (fun K hK => ?_) AllReadyH.nil)
          · rw [if_pos (by rfl)]
            refine append_upon rfl rfl rfl r1 ?_
            simp only [Act.put, List.getElem_toArray, List.getElem_cons_zero, List.getElem_cons_succ, List.setIfInBounds_toArray, List.set_cons_zero, List.set_cons_succ]
            refine hK _ _ (unhide HW1).1 ?_
            clear hK hHeld
            intro hHeld
            refine wpAnyH_ready (rs := [9]) (by kernel_rfl) (by simp) ?_
            refine AllReadyH.cons rfl (fun K hK => ?_) AllReadyH.nil
            go_simp
            refine hK _ _ (unhide HW1).2.1 ?_
            clear hK hHeld
            intro hHeld
            refine wpAnyH_ready (rs := [10]) (by kernel_rfl) (by simp) ?_
            refine AllReadyH.cons rfl (fun K hK => ?_) AllReadyH.nil
            rw [if_pos (by rfl)]
            refine append_upon rfl rfl rfl r2 ?_
            simp only [Act.put, List.getElem_toArray, List.getElem_cons_zero, List.getElem_cons_succ, List.setIfInBounds_toArray, List.set_cons_zero, List.set_cons_succ]
            refine hK _ _ (unhide HW1).2.2.1 ?_
            clear hK hHeld
            intro hHeld
            refine wpAnyH_ready (rs := [14]) (by kernel_rfl) (by simp) ?_
            refine AllReadyH.cons rfl (fun K hK => ?_) AllReadyH.nil
            rw [if_pos (by rfl)]
            refine append_upon rfl rfl rfl r3 ?_
            simp only [Act.put, List.getElem_toArray, List.getElem_cons_zero, List.getElem_cons_succ, List.setIfInBounds_toArray, List.set_cons_zero, List.set_cons_succ]
            refine hK _ _ (unhide HW1).2.2.2 ?_
            clear hK hHeld
            intro hHeld
            refine wpAnyH_take (i := 15) (v := ?v116x15) rfl (by kernel_rfl) (by kernel_rfl) (by kernel_rfl) (fun _ _ _ h => h) (Or.inl ⟨by rfl, ?hy116x15⟩) (by assumption) ?rest116x15
            case hy116x15 => intro w hSw; go_simp <;> with_reducible rfl
            simp only [Act.put, List.getElem_toArray, List.getElem_cons_zero, List.getElem_cons_succ, List.setIfInBounds_toArray, List.set_cons_zero, List.set_cons_succ]
            refine wpAnyH_done (by kernel_rfl) ?_ _
            go_wp2
            go_roundw
            case rel => exact ⟨t + 1, by omega, by go_num, unhide HRA⟩
            case measure => simp [intOf]; omega
          · go_simp
            refine hK _ _ (unhide HW2).1 ?_
            clear hK hHeld
            intro hHeld
            refine wpAnyH_ready (rs := [4]) (by kernel_rfl) (by simp) ?_
            refine AllReadyH.cons rfl (fun K hK => ?_) AllReadyH.nil
            rw [if_pos (by rfl)]
            refine append_upon rfl rfl rfl q1 ?_
            simp only [Act.put, List.getElem_toArray, List.getElem_cons_zero, List.getElem_cons_succ, List.setIfInBounds_toArray, List.set_cons_zero, List.set_cons_succ]
            refine hK _ _ (unhide HW2).2.1 ?_
            clear hK hHeld
            intro hHeld
            refine wpAnyH_ready (rs := [10]) (by kernel_rfl) (by simp) ?_
            refine AllReadyH.cons rfl (fun K hK => ?_) AllReadyH.nil
            rw [if_pos (by rfl)]
            refine append_upon rfl rfl rfl q2 ?_
            simp only [Act.put, List.getElem_toArray, List.getElem_cons_zero, List.getElem_cons_succ, List.setIfInBounds_toArray, List.set_cons_zero, List.set_cons_succ]
            refine hK _ _ (unhide HW2).2.2.1 ?_
            clear hK hHeld
            intro hHeld
            refine wpAnyH_ready (rs := [14]) (by kernel_rfl) (by simp) ?_
            refine AllReadyH.cons rfl (fun K hK => ?_) AllReadyH.nil
            rw [if_pos (by rfl)]
            refine append_upon rfl rfl rfl q3 ?_
            simp only [Act.put, List.getElem_toArray, List.getElem_cons_zero, List.getElem_cons_succ, List.setIfInBounds_toArray, List.set_cons_zero, List.set_cons_succ]
            refine hK _ _ (unhide HW2).2.2.2 ?_
            clear hK hHeld
            intro hHeld
            refine wpAnyH_take (i := 15) (v := ?v117x15) rfl (by kernel_rfl) (by kernel_rfl) (by kernel_rfl) (fun _ _ _ h => h) (Or.inl ⟨by rfl, ?hy117x15⟩) (by assumption) ?rest117x15
            case hy117x15 => intro w hSw; go_simp <;> with_reducible rfl
            simp only [Act.put, List.getElem_toArray, List.getElem_cons_zero, List.getElem_cons_succ, List.setIfInBounds_toArray, List.set_cons_zero, List.set_cons_succ]
            refine wpAnyH_done (by kernel_rfl) ?_ _
            go_wp2
            go_roundw
            case rel => exact ⟨t + 1, by omega, by go_num, unhide HRB⟩
            case measure => simp [intOf]; omega
    · obtain rfl : t = n := by omega
      have hnl := unhide HN
      rw [List.take_of_length_le (by omega)] at hown
      obtain ⟨ov, oc, hov⟩ := own_shape hown
      have HOW := hide hown
      subst hov
      clear hown hnl
      go_wp2
      go_ret
      exact ⟨_, rfl, unhide HOW, unhide HBW⟩
end Go.Proofs.Ytibjhjkeflbghaa
