/- The document's Check. -/
import Derived.Test.YtknpfippdddnhaaDoorJC
namespace Go.Proofs.YtknpfippdddnhaaDoor
open Go.RowKit Go.Shelf
set_option maxRecDepth 100000

set_option maxHeartbeats 3200000 in
theorem rcheck_any {w : World} (s r : Int) (a1 a2 a3 a4 : Option Addr) (n1 n2 n3 n4 c1 c2 c3 c4 : Nat) {l : List Int} {K1 K2 : List Ky} (bR bW : Bool) (h1 : SeesL yC 1 w (.slice a1 n1 c1) l) (hby : Byt l) (h3 : SeesL kC 2 w (.slice a3 n3 c3) K1) (h4 : SeesL kC 2 w (.slice a4 n4 c4) K2) (hR : bR = true ↔ Ris K1) (hW : bW = true ↔ Ris K2) (hm1 : K1.length ≤ 140737488351232) (hm2 : K2.length ≤ 140737488351232) :
    Calls Tryd.prog 29 #[(.agg #[.int .i64 s, .int .i64 r, .slice a1 n1 c1, .slice a2 n2 c2, .slice a3 n3 c3, .slice a4 n4 c4])] w fun e w' => e = .returned (.int .i64 (chk s r n2 n3 n4 bR bW (dec l))) ∧ Below w.heap.size w w' := by
  obtain ⟨W0, hW0⟩ : ∃ W, w.alloc (.cells #[.int .i64 s, .int .i64 r, .slice a1 n1 c1, .slice a2 n2 c2, .slice a3 n3 c3, .slice a4 n4 c4] 52) = W := ⟨_, rfl⟩
  have hb0 : Below w.heap.size w W0 := hW0 ▸ below_box _
  have kt : W0.heap[w.heap.size]? = some (.cells #[.int .i64 s, .int .i64 r, .slice a1 n1 c1, .slice a2 n2 c2, .slice a3 n3 c3, .slice a4 n4 c4] 52) := hW0 ▸ heap_alloc_new w _
  have hlt := (Array.getElem?_eq_some_iff.1 kt).1
  have HB0 := hide hb0
  have HRR : Hid (∀ z, Below w.heap.size w z → Calls Tryd.prog 61 #[.slice a3 n3 c3] z fun e w' => e = .returned (.bool bR) ∧ Below z.heap.size z w') := fun z hb => rises_any bR hR (h3.below kC_len hb) hm1
  have HRW : Hid (∀ z, Below w.heap.size w z → Calls Tryd.prog 61 #[.slice a4 n4 c4] z fun e w' => e = .returned (.bool bW) ∧ Below z.heap.size z w') := fun z hb => rises_any bW hW (h4.below kC_len hb) hm2
  have HDC : Hid (∀ z, Below w.heap.size w z → Calls Tryd.prog 10 #[.slice a1 n1 c1] z fun e w' => DeR z (dec l) e w') := fun z hb => rdecode_any (h1.below yC_len hb) hby
  have HZ : Hid (∀ z, Below W0.heap.size W0 z → Below w.heap.size w z) := fun z hb => hb0.trans (hb.mono (Nat.le_of_lt hlt))
  have HKT : Hid (∀ z, Below W0.heap.size W0 z → z.heap[w.heap.size]? = some (.cells #[.int .i64 s, .int .i64 r, .slice a1 n1 c1, .slice a2 n2 c2, .slice a3 n3 c3, .slice a4 n4 c4] 52)) := fun z hb => (hb.block _ hlt).trans kt
  obtain ⟨V, hV⟩ : ∃ V, chk s r n2 n3 n4 bR bW (dec l) = V := ⟨_, rfl⟩
  rw [hV]
  have HV := hide hV
  have HTS := hide (fun w => time_any s w)
  have HTR := hide (fun w => time_any r w)
  have HDL := hide (fun h : (dec l).2 = 0 => (dec_okI hby h).2)
  have HW0 := hide hW0
  clear h1 h3 h4 hR hW hm1 hm2 hV hb0 kt hW0 hby
  have eqV : ∀ x, x = V → V = x := fun x h => h.symm
  have ts : tm s = false ↔ s < 1 ∨ 1099511627776 < s := by unfold tm; simp; omega
  have tr : tm r = false ↔ r < 1 ∨ 1099511627776 < r := by unfold tm; simp; omega
  by_cases gsa : s < 1
  · skip
    obtain rfl : 1 = V := by rw [← unhide HV]; unfold chk; rw [if_pos (.inl (ts.2 (.inl gsa)))]
    have ksa : decide (s < 1) = true := decide_eq_true gsa
    clear HV eqV ts tr gsa  
    go_enter Tryd.func29, Tryd.ntmps29
    go_wp2
    go_ret
    exact ⟨rfl, by rw [unhide HW0]; exact unhide HB0⟩
  have ksa : decide (s < 1) = false := decide_eq_false gsa
  by_cases gsb : 1099511627776 < s
  · skip
    obtain rfl : 1 = V := by rw [← unhide HV]; unfold chk; rw [if_pos (.inl (ts.2 (.inr gsb)))]
    have ksb : decide (s > 1099511627776) = true := decide_eq_true gsb
    have ksb' : decide (1099511627776 < s) = true := decide_eq_true gsb
    clear HV eqV ts tr gsb  gsa
    go_enter Tryd.func29, Tryd.ntmps29
    go_wp2
    go_ret
    exact ⟨rfl, by rw [unhide HW0]; exact unhide HB0⟩
  have ksb : decide (s > 1099511627776) = false := decide_eq_false gsb
  have ksb' : decide (1099511627776 < s) = false := decide_eq_false gsb
  by_cases gra : r < 1
  · skip
    obtain rfl : 1 = V := by rw [← unhide HV]; unfold chk; rw [if_pos (.inr (tr.2 (.inl gra)))]
    have kra : decide (r < 1) = true := decide_eq_true gra
    clear HV eqV ts tr gra gsa gsb 
    go_enter Tryd.func29, Tryd.ntmps29
    go_wp2
    go_ret
    exact ⟨rfl, by rw [unhide HW0]; exact unhide HB0⟩
  have kra : decide (r < 1) = false := decide_eq_false gra
  by_cases grb : 1099511627776 < r
  · skip
    obtain rfl : 1 = V := by rw [← unhide HV]; unfold chk; rw [if_pos (.inr (tr.2 (.inr grb)))]
    have krb : decide (r > 1099511627776) = true := decide_eq_true grb
    have krb' : decide (1099511627776 < r) = true := decide_eq_true grb
    clear HV eqV ts tr grb gsa gsb gra
    go_enter Tryd.func29, Tryd.ntmps29
    go_wp2
    go_ret
    exact ⟨rfl, by rw [unhide HW0]; exact unhide HB0⟩
  have krb : decide (r > 1099511627776) = false := decide_eq_false grb
  have krb' : decide (1099511627776 < r) = false := decide_eq_false grb
  have G12 : ¬ (tm s = false ∨ tm r = false) := by rw [ts, tr]; omega
  clear ts tr gsa gsb gra grb
  by_cases gn2 : 8 < n2
  · skip
    obtain rfl : 3 = V := by rw [← unhide HV]; unfold chk; rw [if_neg G12, if_pos (.inl gn2)]
    have kn2 : decide ((n2 : Int) > 8) = true := decide_eq_true (by omega)
    have kn2' : decide (8 < (n2 : Int)) = true := decide_eq_true (by omega)
    clear HV eqV G12 gn2 
    go_enter Tryd.func29, Tryd.ntmps29
    go_wp2
    go_ret
    exact ⟨rfl, by rw [unhide HW0]; exact unhide HB0⟩
  have kn2 : decide ((n2 : Int) > 8) = false := decide_eq_false (by omega)
  have kn2' : decide (8 < (n2 : Int)) = false := decide_eq_false (by omega)
  by_cases gn3 : 16 < n3
  · skip
    obtain rfl : 3 = V := by rw [← unhide HV]; unfold chk; rw [if_neg G12, if_pos (.inr (.inl gn3))]
    have kn3 : decide ((n3 : Int) > 16) = true := decide_eq_true (by omega)
    have kn3' : decide (16 < (n3 : Int)) = true := decide_eq_true (by omega)
    clear HV eqV G12 gn3 gn2
    go_enter Tryd.func29, Tryd.ntmps29
    go_wp2
    go_ret
    exact ⟨rfl, by rw [unhide HW0]; exact unhide HB0⟩
  have kn3 : decide ((n3 : Int) > 16) = false := decide_eq_false (by omega)
  have kn3' : decide (16 < (n3 : Int)) = false := decide_eq_false (by omega)
  by_cases gn4 : 16 < n4
  · skip
    obtain rfl : 3 = V := by rw [← unhide HV]; unfold chk; rw [if_neg G12, if_pos (.inr (.inr gn4))]
    have kn4 : decide ((n4 : Int) > 16) = true := decide_eq_true (by omega)
    have kn4' : decide (16 < (n4 : Int)) = true := decide_eq_true (by omega)
    clear HV eqV G12 gn4 gn2 gn3
    go_enter Tryd.func29, Tryd.ntmps29
    go_wp2
    go_ret
    exact ⟨rfl, by rw [unhide HW0]; exact unhide HB0⟩
  have kn4 : decide ((n4 : Int) > 16) = false := decide_eq_false (by omega)
  have kn4' : decide (16 < (n4 : Int)) = false := decide_eq_false (by omega)
  have G3 : ¬ (8 < n2 ∨ 16 < n3 ∨ 16 < n4) := by omega
  clear gn2 gn3 gn4
  by_cases gR : bR = false
  · skip
    obtain rfl : 1 = V := by rw [← unhide HV]; unfold chk; rw [if_neg G12, if_neg G3, if_pos (.inl gR)]
    subst gR
    clear HV eqV G12 G3
    go_enter Tryd.func29, Tryd.ntmps29
    go_wp2_with (first
      | (go_at_call_of 61 (Value.slice a3 n3 c3); try rw [unhide HW0]; refine (unhide HRR _ (unhide HB0)).mono ?_; rintro e z1 ⟨rfl, hb1⟩; have Z1 := hide hb1; have kz1 := unhide HKT _ hb1; obtain ⟨p0, p1, p2, p3, p4, p5⟩ := cells6 kz1; clear hb1 kz1))
    go_ret
    exact ⟨rfl, unhide HZ _ (unhide Z1)⟩
  obtain rfl : bR = true := by simpa using gR
  clear gR
  by_cases gW : bW = false
  · skip
    obtain rfl : 1 = V := by rw [← unhide HV]; unfold chk; rw [if_neg G12, if_neg G3, if_pos (.inr gW)]
    subst gW
    clear HV eqV G12 G3
    go_enter Tryd.func29, Tryd.ntmps29
    go_wp2_with (first
      | (go_at_call_of 61 (Value.slice a3 n3 c3); try rw [unhide HW0]; refine (unhide HRR _ (unhide HB0)).mono ?_; rintro e z1 ⟨rfl, hb1⟩; have Z1 := hide hb1; have kz1 := unhide HKT _ hb1; obtain ⟨p0, p1, p2, p3, p4, p5⟩ := cells6 kz1; clear hb1 kz1)
      | (go_at_call_of 61 (Value.slice a4 n4 c4); refine (unhide HRW _ (unhide HZ _ (unhide Z1))).mono ?_; rintro e z2 ⟨rfl, hb2⟩; have Z2 : Hid (Below W0.heap.size W0 z2) := (unhide Z1).trans (hb2.mono (unhide Z1).size); have kz2 := unhide HKT _ (unhide Z2); obtain ⟨q0, q1, q2, q3, q4, q5⟩ := cells6 kz2; clear hb2 kz2))
    go_ret
    exact ⟨rfl, unhide HZ _ (unhide Z2)⟩
  obtain rfl : bW = true := by simpa using gW
  clear gW
  have G4 : ¬ (true = false ∨ true = false) := by simp
  by_cases gD : (dec l).2 = 0
  case neg =>
    obtain rfl : (dec l).2 = V := by rw [← unhide HV]; unfold chk; rw [if_neg G12, if_neg G3, if_neg G4, if_pos gD]
    have kD : ((dec l).2 != 0) = true := by simpa using gD
    clear HV eqV G12 G3 G4 gD HDL
    generalize dec l = D at *
    go_enter Tryd.func29, Tryd.ntmps29
    go_wp2_with (first
      | (go_at_call_of 61 (Value.slice a3 n3 c3); try rw [unhide HW0]; refine (unhide HRR _ (unhide HB0)).mono ?_; rintro e z1 ⟨rfl, hb1⟩; have Z1 := hide hb1; have kz1 := unhide HKT _ hb1; obtain ⟨p0, p1, p2, p3, p4, p5⟩ := cells6 kz1; clear hb1 kz1)
      | (go_at_call_of 61 (Value.slice a4 n4 c4); refine (unhide HRW _ (unhide HZ _ (unhide Z1))).mono ?_; rintro e z2 ⟨rfl, hb2⟩; have Z2 : Hid (Below W0.heap.size W0 z2) := (unhide Z1).trans (hb2.mono (unhide Z1).size); have kz2 := unhide HKT _ (unhide Z2); obtain ⟨q0, q1, q2, q3, q4, q5⟩ := cells6 kz2; clear hb2 kz2)
      | (go_at_call 10; refine (unhide HDC _ (unhide HZ _ (unhide Z2))).mono ?_; rintro e z3 ⟨x3, rfl, hb3, ho3⟩; obtain ⟨a5, c5, rfl⟩ := own_shape ho3; have Z3 : Hid (Below W0.heap.size W0 z3) := (unhide Z2).trans (hb3.mono (unhide Z2).size); have O3 := hide ho3; clear hb3 ho3))
    go_ret
    exact ⟨rfl, unhide HZ _ (unhide Z3)⟩
  obtain ⟨L, hL⟩ : ∃ L, dec l = (L, 0) := ⟨_, Prod.ext rfl gD⟩
  have hV : (if L.all (hasB n2 n3 n4) = true then (0 : Int) else 132) = V := by rw [← unhide HV]; unfold chk; rw [if_neg G12, if_neg G3, if_neg G4, hL]; rfl
  have hk512 : L.length ≤ 512 := by have := unhide HDL gD; rw [hL] at this; exact this
  have HVV := hide hV
  rw [hL] at HDC
  clear HV eqV G12 G3 G4 gD HDL hL hV
  obtain ⟨k, hk⟩ : ∃ k, L.length = k := ⟨_, rfl⟩
  have HK := hide hk
  rw [hk] at hk512
  clear hk
  go_enter Tryd.func29, Tryd.ntmps29
  go_wp2_with (first
    | (go_at_call_of 61 (Value.slice a3 n3 c3); try rw [unhide HW0]; refine (unhide HRR _ (unhide HB0)).mono ?_; rintro e z1 ⟨rfl, hb1⟩; have Z1 := hide hb1; have kz1 := unhide HKT _ hb1; obtain ⟨p0, p1, p2, p3, p4, p5⟩ := cells6 kz1; clear hb1 kz1)
    | (go_at_call_of 61 (Value.slice a4 n4 c4); refine (unhide HRW _ (unhide HZ _ (unhide Z1))).mono ?_; rintro e z2 ⟨rfl, hb2⟩; have Z2 : Hid (Below W0.heap.size W0 z2) := (unhide Z1).trans (hb2.mono (unhide Z1).size); have kz2 := unhide HKT _ (unhide Z2); obtain ⟨q0, q1, q2, q3, q4, q5⟩ := cells6 kz2; clear hb2 kz2)
    | (go_at_call 10; refine (unhide HDC _ (unhide HZ _ (unhide Z2))).mono ?_; rintro e z3 ⟨x3, rfl, hb3, ho3⟩; obtain ⟨a5, c5, rfl⟩ := own_shape ho3; have Z3 : Hid (Below W0.heap.size W0 z3) := (unhide Z2).trans (hb3.mono (unhide Z2).size); have O3 := hide ho3; clear hb3 ho3))
  have hsee := (own_sees iC_len (by decide) (unhide O3)).2
  obtain ⟨ao', cap', g, o, hv2, _, hao, hc⟩ := hsee.ins
  simp only [Value.slice.injEq] at hv2
  obtain ⟨rfl, hln, rfl⟩ := hv2
  have hlk : (([] : List Ins).length = 0) := rfl
  clear hlk hln
  simp only [unhide HK] at hao ⊢
  have HC := hide hc
  have HSE := hide hsee
  clear hc hsee p0 p1 p2 p3 p4 p5 q0 q1 q2 q3 q4 q5
  go_loopw [5] (fun c y => ∃ t : Nat, t ≤ k ∧ c = .int .i64 t ∧ (∀ u, u < t → ∀ x, L[u]? = some x → hasB n2 n3 n4 x = true) ∧ Below z3.heap.size z3 y) (fun c _ => k - (intOf c).toNat)
  case atStart => exact ⟨0, Nat.zero_le _, rfl, fun u hu => absurd hu (by omega), Below.refl _ _⟩
  case round =>
    obtain ⟨t, ht, rfl, hF, hBy⟩ := hrel
    have HF := hide hF
    have HBY := hide hBy
    have ZY : Hid (Below W0.heap.size W0 wr) := (unhide Z3).trans (hBy.mono (unhide Z3).size)
    have kzy := unhide HKT _ (unhide ZY)
    obtain ⟨p0, p1, p2, p3, p4, p5⟩ := cells6 kzy
    by_cases hlt : t < k
    · obtain ⟨x, hx⟩ : ∃ x, L[t]? = some x := ⟨_, List.getElem?_eq_getElem (by rw [unhide HK]; exact hlt)⟩
      obtain rfl := hao (by omega)
      obtain ⟨e0, e1, e2, e3, e4⟩ := unhide HC t x hx
      have up : ∀ q v, z3.cell? q = some v → wr.cell? q = some v := fun q v h => (hBy.cell (World.block_lt_of_cell? z3 _ h)).trans h
      have e0 := up _ _ e0
      have e1 := up _ _ e1
      have e2 := up _ _ e2
      have e3 := up _ _ e3
      have e4 := up _ _ e4
      have hlt2 : (t : Int) < (k : Int) := by omega
      have HX := hide hx
      have hnext : hasB n2 n3 n4 x = true → ∀ u, u < t + 1 → ∀ y, L[u]? = some y → hasB n2 n3 n4 y = true := fun h u hu y hy => by
        by_cases he : u = t
        · subst he
          rw [unhide HX] at hy
          obtain rfl := Option.some.inj hy
          exact h
        · exact unhide HF u (by omega) y hy
      have HNX := hide hnext
      have hbad : hasB n2 n3 n4 x = false → V = 132 := fun h => by
        rw [← unhide HVV]
        refine if_neg fun z => ?_
        have := List.all_eq_true.1 z x (List.mem_of_getElem? (unhide HX))
        rw [h] at this
        cases this
      have HBD := hide hbad
      clear hx hnext hbad hF hBy up kzy
      obtain ⟨xd, xo, xa, xb, xm⟩ := x
      simp only at e0 e1 e2 e3 e4
      clear e0 e2 e3
      by_cases o2 : xo = 2
      · subst o2
        by_cases hlm : xm < (n2 : Int)
        · have HNN := hide (unhide HNX (decide_eq_true hlm))
          have kl : decide (xm ≥ (n2 : Int)) = false := decide_eq_false (by omega)
          have kl' : decide ((n2 : Int) ≤ xm) = false := decide_eq_false (by omega)
          clear HNX HBD hlm
          go_wp2
          go_roundw
          case rel => exact ⟨t + 1, by omega, by go_num, unhide HNN, unhide HBY⟩
          case measure => simp [intOf]; omega
        · obtain rfl := unhide HBD (decide_eq_false hlm)
          have kl : decide (xm ≥ (n2 : Int)) = true := decide_eq_true (by omega)
          have kl' : decide ((n2 : Int) ≤ xm) = true := decide_eq_true (by omega)
          clear HNX HBD hlm
          go_wp2
          go_ret
          exact ⟨rfl, unhide HZ _ (unhide ZY)⟩
      have j2 : (xo == 2) = false := by simpa using o2
      by_cases o3 : xo = 3
      · subst o3
        by_cases hlm : xm < (n3 : Int)
        · have HNN := hide (unhide HNX (decide_eq_true hlm))
          have kl : decide (xm ≥ (n3 : Int)) = false := decide_eq_false (by omega)
          have kl' : decide ((n3 : Int) ≤ xm) = false := decide_eq_false (by omega)
          clear HNX HBD hlm
          go_wp2
          go_roundw
          case rel => exact ⟨t + 1, by omega, by go_num, unhide HNN, unhide HBY⟩
          case measure => simp [intOf]; omega
        · obtain rfl := unhide HBD (decide_eq_false hlm)
          have kl : decide (xm ≥ (n3 : Int)) = true := decide_eq_true (by omega)
          have kl' : decide ((n3 : Int) ≤ xm) = true := decide_eq_true (by omega)
          clear HNX HBD hlm
          go_wp2
          go_ret
          exact ⟨rfl, unhide HZ _ (unhide ZY)⟩
      have j3 : (xo == 3) = false := by simpa using o3
      by_cases o4 : xo = 4
      · subst o4
        by_cases hlm : xm < (n3 : Int)
        · have HNN := hide (unhide HNX (decide_eq_true hlm))
          have kl : decide (xm ≥ (n3 : Int)) = false := decide_eq_false (by omega)
          have kl' : decide ((n3 : Int) ≤ xm) = false := decide_eq_false (by omega)
          clear HNX HBD hlm
          go_wp2
          go_roundw
          case rel => exact ⟨t + 1, by omega, by go_num, unhide HNN, unhide HBY⟩
          case measure => simp [intOf]; omega
        · obtain rfl := unhide HBD (decide_eq_false hlm)
          have kl : decide (xm ≥ (n3 : Int)) = true := decide_eq_true (by omega)
          have kl' : decide ((n3 : Int) ≤ xm) = true := decide_eq_true (by omega)
          clear HNX HBD hlm
          go_wp2
          go_ret
          exact ⟨rfl, unhide HZ _ (unhide ZY)⟩
      have j4 : (xo == 4) = false := by simpa using o4
      by_cases o5 : xo = 5
      · subst o5
        by_cases hlm : xm < (n4 : Int)
        · have HNN := hide (unhide HNX (decide_eq_true hlm))
          have kl : decide (xm ≥ (n4 : Int)) = false := decide_eq_false (by omega)
          have kl' : decide ((n4 : Int) ≤ xm) = false := decide_eq_false (by omega)
          clear HNX HBD hlm
          go_wp2
          go_roundw
          case rel => exact ⟨t + 1, by omega, by go_num, unhide HNN, unhide HBY⟩
          case measure => simp [intOf]; omega
        · obtain rfl := unhide HBD (decide_eq_false hlm)
          have kl : decide (xm ≥ (n4 : Int)) = true := decide_eq_true (by omega)
          have kl' : decide ((n4 : Int) ≤ xm) = true := decide_eq_true (by omega)
          clear HNX HBD hlm
          go_wp2
          go_ret
          exact ⟨rfl, unhide HZ _ (unhide ZY)⟩
      have j5 : (xo == 5) = false := by simpa using o5
      by_cases o6 : xo = 6
      · subst o6
        by_cases hlm : xm < (n4 : Int)
        · have HNN := hide (unhide HNX (decide_eq_true hlm))
          have kl : decide (xm ≥ (n4 : Int)) = false := decide_eq_false (by omega)
          have kl' : decide ((n4 : Int) ≤ xm) = false := decide_eq_false (by omega)
          clear HNX HBD hlm
          go_wp2
          go_roundw
          case rel => exact ⟨t + 1, by omega, by go_num, unhide HNN, unhide HBY⟩
          case measure => simp [intOf]; omega
        · obtain rfl := unhide HBD (decide_eq_false hlm)
          have kl : decide (xm ≥ (n4 : Int)) = true := decide_eq_true (by omega)
          have kl' : decide ((n4 : Int) ≤ xm) = true := decide_eq_true (by omega)
          clear HNX HBD hlm
          go_wp2
          go_ret
          exact ⟨rfl, unhide HZ _ (unhide ZY)⟩
      have j6 : (xo == 6) = false := by simpa using o6
      have HNN := hide (unhide HNX (by unfold hasB; simp [o2, o3, o4, o5, o6]))
      clear HNX HBD o2 o3 o4 o5 o6
      go_wp2
      go_roundw
      case rel => exact ⟨t + 1, by omega, by go_num, unhide HNN, unhide HBY⟩
      case measure => simp [intOf]; omega
    · have hV0 : V = 0 := by
        rw [← unhide HVV]
        refine if_pos (List.all_eq_true.2 fun x hx => ?_)
        obtain ⟨u, hu, rfl⟩ := List.mem_iff_getElem.1 hx
        exact hF u (by rw [unhide HK] at hu; omega) _ (List.getElem?_eq_getElem hu)
      subst hV0
      have hge : ¬ (t : Int) < (k : Int) := by omega
      clear hF hBy kzy
      go_wp2
      go_ret
      exact ⟨rfl, unhide HZ _ (unhide ZY)⟩
end Go.Proofs.YtknpfippdddnhaaDoor
