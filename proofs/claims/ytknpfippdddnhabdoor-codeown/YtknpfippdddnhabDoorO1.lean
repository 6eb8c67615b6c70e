/- CodeOwn's walk. -/
import Derived.Test.YtknpfippdddnhabDoorO0
import Derived.Test.YtknpfippdddnhabDoorJC
namespace Go.Proofs.YtknpfippdddnhabDoor
open Go.RowKit Go.Shelf
set_option maxRecDepth 100000

def RwR (w : World) (e : Ending) (w' : World) : Prop := e = .returned (.bool true) ∧ Below w.heap.size w w'
/-- A row of one's own whose numbers may have turned. -/
def RowOk (base : Nat) (z : World) (ao : Option Addr) (n k e : Nat) : Prop := 0 < n → ∃ g cs, ao = some ⟨g, 0, none⟩ ∧ base ≤ g ∧ z.heap[g]? = some (.cells cs e) ∧ n * k ≤ cs.size
theorem rowOk_of {z : World} {base e k n cap : Nat} {ao : Option Addr} {xs : List Value} (h : z.ownsRow base e k (.slice ao n cap) n xs) : RowOk base z ao n k e := fun hn => by
  rcases h.2 with ⟨_, h0⟩ | ⟨g, cap', cur, hv, hg, hh, h1, _, h3, _⟩
  · omega
  · simp only [Value.slice.injEq] at hv
    exact ⟨g, cur, hv.1, hg, hh, by rw [h3]; exact Nat.mul_le_mul_right k h1⟩
theorem RowOk.oth {base n k e e' : Nat} {z z' : World} {ao : Option Addr} (h : RowOk base z ao n k e) (ho : Oth e' z z') (he : e ≠ e') : RowOk base z' ao n k e := fun hn => by
  obtain ⟨g, cs, h1, h2, h3, h4⟩ := h hn
  exact ⟨g, cs, h1, h2, ho g cs e he h3, h4⟩
theorem oth_set {e g o : Nat} {cs : Array Value} {a z : World} {u : Value} (h : Oth e a z) (hg : z.heap[g]? = some (.cells cs e)) : Oth e a (z.setCell ⟨g, o, none⟩ u) := fun k ds T ht hk => by
  have h1 := h k ds T ht hk
  rw [Below.heap_setCell _ _ _ _ (show k ≠ g from fun z => by subst z; rw [hg] at h1; simp at h1; exact ht h1.2.symm)]
  exact h1
set_option maxHeartbeats 3200000 in
theorem own_walk {w : World} (s r : Int) (a1 a2 a3 a4 : Option Addr) (n1 n2 n3 n4 c1 c2 c3 c4 : Nat) {l : List Int} {K1 K2 : List Ky} (hT : Tab w) (h1 : SeesL yC 1 w (.slice a1 n1 c1) l) (hby : Byt l) (h3 : SeesL kC 2 w (.slice a3 n3 c3) K1) (h4 : SeesL kC 2 w (.slice a4 n4 c4) K2) (hm1 : K1.length ≤ 140737488351232) (hm2 : K2.length ≤ 140737488351232) (hml : l.length ≤ 140737488351232) :
    Calls Tryd.prog 3 #[(.agg #[.int .i64 s, .int .i64 r, .slice a1 n1 c1, .slice a2 n2 c2, .slice a3 n3 c3, .slice a4 n4 c4])] w fun e w' => RwR w e w' := by
  obtain ⟨bR, hR⟩ : ∃ b : Bool, b = true ↔ Ris K1 := by by_cases h : Ris K1; exact ⟨true, by simp [h]⟩; exact ⟨false, by simp [h]⟩
  obtain ⟨bW, hW⟩ : ∃ b : Bool, b = true ↔ Ris K2 := by by_cases h : Ris K2; exact ⟨true, by simp [h]⟩; exact ⟨false, by simp [h]⟩
  obtain ⟨W0, hW0⟩ : ∃ W, w.alloc (.cells #[.int .i64 s, .int .i64 r, .slice a1 n1 c1, .slice a2 n2 c2, .slice a3 n3 c3, .slice a4 n4 c4] 26) = W := ⟨_, rfl⟩
  have hb0 : Below w.heap.size w W0 := hW0 ▸ below_box _
  have kt : W0.heap[w.heap.size]? = some (.cells #[.int .i64 s, .int .i64 r, .slice a1 n1 c1, .slice a2 n2 c2, .slice a3 n3 c3, .slice a4 n4 c4] 26) := hW0 ▸ heap_alloc_new w _
  have hlt := (Array.getElem?_eq_some_iff.1 kt).1
  have hokD : OkI (dec l).1 ∧ (dec l).1.length ≤ 512 := by
    by_cases h : (dec l).2 = 0
    · exact dec_okI hby h
    · rw [dec_err h]; exact ⟨(fun x hx => by cases hx), by simp⟩
  have HZ : Hid (∀ z, Below W0.heap.size W0 z → Below w.heap.size w z) := fun z hb => hb0.trans (hb.mono (Nat.le_of_lt hlt))
  have HKT : Hid (∀ z, Below W0.heap.size W0 z → z.heap[w.heap.size]? = some (.cells #[.int .i64 s, .int .i64 r, .slice a1 n1 c1, .slice a2 n2 c2, .slice a3 n3 c3, .slice a4 n4 c4] 26)) := fun z hb => (hb.block _ hlt).trans kt
  have HTT : Hid (∀ z, Below W0.heap.size W0 z → Tab z) := fun z hb => hT.below (unhide HZ _ hb) hT.pos
  have HSL : Hid (∀ z, Below W0.heap.size W0 z → SeesL yC 1 z (.slice a1 n1 c1) l) := fun z hb => h1.below yC_len (unhide HZ _ hb)
  have HC : Hid (∀ z, Below W0.heap.size W0 z → Calls Tryd.prog 7 #[(.agg #[.int .i64 s, .int .i64 r, .slice a1 n1 c1, .slice a2 n2 c2, .slice a3 n3 c3, .slice a4 n4 c4])] z fun e w' => (∃ c, e = .returned (.int .i64 c)) ∧ Below z.heap.size z w') := fun z hb => (check_any s r a1 a2 a3 a4 n1 n2 n3 n4 c1 c2 c3 c4 bR bW (unhide HTT z hb) (unhide HSL z hb) hby (h3.below kC_len (unhide HZ _ hb)) (h4.below kC_len (unhide HZ _ hb)) hR hW hm1 hm2).mono fun e w' h => ⟨⟨_, h.1⟩, h.2⟩
  have HCL : Hid (∀ z, Below W0.heap.size W0 z → Calls Tryd.prog 4 #[.slice a1 n1 c1] z _) := fun z hb => clone_any (unhide HSL z hb) (by omega)
  have HD : Hid (∀ z, Below W0.heap.size W0 z → Calls Tryd.prog 5 #[.slice a1 n1 c1] z _) := fun z hb => decode_any (unhide HTT z hb) (unhide HSL z hb) hby
  have HBY := hide hby
  have HOK := hide hokD
  have HW0 := hide hW0
  have hn1 : l.length = n1 := by
    obtain ⟨ao, cap, e⟩ := h1.shape
    simp only [Value.slice.injEq] at e
    exact e.2.1.symm
  have HN1 := hide hn1
  have hk512 := hokD.2
  generalize hDD : dec l = D at *
  have HDD := hide hDD
  obtain ⟨L, E⟩ := D
  simp only at *
  obtain ⟨k, hk⟩ : ∃ k, L.length = k := ⟨_, rfl⟩
  have HK := hide hk
  rw [hk] at HD hk512
  have hme : (enc L).1.length ≤ 512 := by
    by_cases h : (enc L).2 = 0
    · have := enc_ok h; rw [this.2.1]; exact this.2.2
    · rw [enc_err h]; simp
  have HEN : Hid (∀ z v, Below W0.heap.size W0 z → SeesL iC 5 z v L → Calls Tryd.prog 6 #[v] z _) := fun z v hb hs => encode_any (unhide HTT z hb) hs hokD.1 (by rw [hk]; omega)
  obtain ⟨m, hm⟩ : ∃ m, (enc L).1.length = m := ⟨_, rfl⟩
  rw [hm] at HEN hme
  have HB0 : Hid (Below W0.heap.size W0 W0) := Below.refl _ _
  clear hT h1 hby h3 h4 hm1 hm2 hR hW hW0 kt hb0 hokD hk hm hml hDD
  rw [hn1] at HCL
  clear hn1
  go_enter Tryd.func3, Tryd.ntmps3
  go_wp2_with (first
    | (go_at_call 4; rw [unhide HW0]; refine (unhide HCL _ (unhide HB0)).mono ?_; rintro e z1 ⟨x1, rfl, ho1, hb1⟩; obtain ⟨b1, d1, rfl⟩ := own_shape ho1; have O1 := hide ho1; have Z1 := hide hb1; have kz1 := unhide HKT _ hb1; obtain ⟨p0, p1, p2, p3, p4, p5⟩ := cells6 kz1; clear ho1 hb1 kz1)
    | (go_at_call 5; refine (unhide HD _ (unhide Z1)).mono ?_; rintro e z2 ⟨x2, rfl, hb2, ho2⟩; obtain ⟨b2, d2, rfl⟩ := own_shape ho2; have O2 := hide ho2; have B2 := hide hb2; clear ho2 hb2)
    | (go_at_call 6; refine (unhide HEN _ _ ((unhide Z1).trans ((unhide B2).mono (unhide Z1).size)) (own_sees iC_len (by decide) (unhide O2)).2).mono ?_; rintro e z3 ⟨x3, rfl, hb3, ho3⟩; obtain ⟨b3, d3, rfl⟩ := own_shape ho3; have O3 := hide ho3; have B3 := hide hb3; clear ho3 hb3))
  clear p0 p1 p2 p3 p4 p5
  have B13 : Hid (Below z1.heap.size z1 z3) := (unhide B2).trans ((unhide B3).mono (unhide B2).size)
  have R2 : Hid (RowOk z1.heap.size z3 b2 k 5 35) := rowOk_of (own_below (unhide O2) (unhide B3))
  have R3 : Hid (RowOk z1.heap.size z3 b3 m 1 5) := fun hn => by
    obtain ⟨g, cs, q1, q2, q3, q4⟩ := rowOk_of (unhide O3) hn
    exact ⟨g, cs, q1, Nat.le_trans (unhide B2).size q2, q3, q4⟩
  go_loopw [30] (fun c y => ∃ t : Nat, t ≤ k ∧ c = .int .i64 t ∧ Below z1.heap.size z1 y ∧ Oth 35 z3 y ∧ RowOk z1.heap.size y b2 k 5 35) (fun c _ => k - (intOf c).toNat)
  case atStart => exact ⟨0, Nat.zero_le _, rfl, unhide B13, Oth.refl _ _, unhide R2⟩
  case round =>
    obtain ⟨t, ht, rfl, hB, hO, hRo⟩ := hrel
    by_cases hlt : t < k
    · obtain ⟨g, cs, rfl, hg, hh, hsz⟩ := hRo (by omega)
      have hin : t * 5 + 1 < cs.size := by omega
      have hc : wr.cell? ⟨g, t * 5 + 1, none⟩ = some cs[t * 5 + 1] := (cell_at hh).trans (Array.getElem?_eq_getElem hin)
      have hfz : wr.frozen? ⟨g, t * 5 + 1, none⟩ = false := frozen_of_heap hh
      have hlt2 : (t : Int) < (k : Int) := by omega
      have hfin : Below z1.heap.size z1 (wr.setCell ⟨g, t * 5 + 1, none⟩ (.int .i64 99)) ∧ Oth 35 z3 (wr.setCell ⟨g, t * 5 + 1, none⟩ (.int .i64 99)) ∧ RowOk z1.heap.size (wr.setCell ⟨g, t * 5 + 1, none⟩ (.int .i64 99)) (some ⟨g, 0, none⟩) k 5 35 := ⟨hB.setCell (p := ⟨g, t * 5 + 1, none⟩) hg _, oth_set hO hh, fun _ => ⟨g, _, rfl, hg, heap_setCell_same _ g (t * 5 + 1) _ 35 _ hh, by simpa using hsz⟩⟩
      have HFIN := hide hfin
      generalize cs[t * 5 + 1] = cv at *
      clear hB hO hRo hh hsz hin hfin
      go_wp2
      go_roundw
      case rel => exact ⟨t + 1, by omega, by go_num, (unhide HFIN).1, (unhide HFIN).2.1, (unhide HFIN).2.2⟩
      case measure => simp [intOf]; omega
    · have hge : ¬ (t : Int) < (k : Int) := by omega
      have R3' : Hid (RowOk z1.heap.size wr b3 m 1 5) := (unhide R3).oth hO (by decide)
      have HBY1 := hide hB
      clear hB hO hRo
      go_wp2
      go_loopw [40] (fun c y => ∃ t : Nat, t ≤ m ∧ c = .int .i64 t ∧ Below z1.heap.size z1 y ∧ RowOk z1.heap.size y b3 m 1 5) (fun c _ => m - (intOf c).toNat)
      case atStart => exact ⟨0, Nat.zero_le _, rfl, unhide HBY1, unhide R3'⟩
      case round =>
        obtain ⟨t, ht, rfl, hB, hRo⟩ := hrel
        by_cases hlt : t < m
        · obtain ⟨g, cs, rfl, hg, hh, hsz⟩ := hRo (by omega)
          have hin : t < cs.size := by omega
          have hc : wr.cell? ⟨g, t, none⟩ = some cs[t] := (cell_at hh).trans (Array.getElem?_eq_getElem hin)
          have hfz : wr.frozen? ⟨g, t, none⟩ = false := frozen_of_heap hh
          have hlt2 : (t : Int) < (m : Int) := by omega
          have hfin : Below z1.heap.size z1 (wr.setCell ⟨g, t, none⟩ (.int .u8 99)) ∧ RowOk z1.heap.size (wr.setCell ⟨g, t, none⟩ (.int .u8 99)) (some ⟨g, 0, none⟩) m 1 5 := ⟨hB.setCell (p := ⟨g, t, none⟩) hg _, fun _ => ⟨g, _, rfl, hg, heap_setCell_same _ g t _ 5 _ hh, by simpa using hsz⟩⟩
          have HFIN := hide hfin
          generalize cs[t] = cv at *
          clear hB hRo hh hsz hin hfin
          go_wp2
          go_roundw
          case rel => exact ⟨t + 1, by omega, by go_num, (unhide HFIN).1, (unhide HFIN).2⟩
          case measure => simp [intOf]; omega
        · have hge2 : ¬ (t : Int) < (m : Int) := by omega
          have ZY : Hid (Below W0.heap.size W0 wr) := (unhide Z1).trans (hB.mono (unhide Z1).size)
          have OY := hide (own_below (unhide O1) hB)
          have kzy := unhide HKT _ (unhide ZY)
          obtain ⟨p0, p1, p2, p3, p4, p5⟩ := cells6 kzy
          clear hB hRo kzy
          go_wp2_with (first
            | (go_at_call 7; refine (unhide HC _ (unhide ZY)).mono ?_; rintro e z5 ⟨⟨c, rfl⟩, hb5⟩; have Z5 : Hid (Below W0.heap.size W0 z5) := (unhide ZY).trans (hb5.mono (unhide ZY).size); have S5 := hide ((own_sees yC_len (by decide) (own_below (unhide OY) hb5)).2); have kz5 := unhide HKT _ (unhide Z5); obtain ⟨q0, q1, q2, q3, q4, q5⟩ := cells6 kz5; clear hb5 kz5)
            | (go_at_call 5; refine (unhide HD _ (unhide Z5)).mono ?_; rintro e z6 ⟨x6, rfl, hb6, ho6⟩; obtain ⟨b6, d6, rfl⟩ := own_shape ho6; have Z6 : Hid (Below W0.heap.size W0 z6) := (unhide Z5).trans (hb6.mono (unhide Z5).size); have O6 := hide ho6; have S6 := hide ((unhide S5).below yC_len hb6); clear hb6 ho6)
            | (go_at_call 8; refine (rdecode_any (unhide S6) (unhide HBY)).mono ?_; rw [unhide HDD]; rintro e z7 ⟨x7, rfl, hb7, ho7⟩; obtain ⟨b7, d7, rfl⟩ := own_shape ho7; have Z7 : Hid (Below W0.heap.size W0 z7) := (unhide Z6).trans (hb7.mono (unhide Z6).size); have S7 := hide ((own_sees iC_len (by decide) (own_below (unhide O6) hb7)).2); have S8 := hide (own_sees iC_len (by decide) ho7).2; have S9 := hide ((unhide S6).below yC_len hb7); clear hb7 ho7)
            | (go_at_call 9; refine (live_any (unhide HTT _ (unhide Z7))).mono ?_; rintro e z8 ⟨rfl, hb8⟩; have Z8 : Hid (Below W0.heap.size W0 z8) := (unhide Z7).trans (hb8.mono (unhide Z7).size); have SA := hide ((unhide S7).below iC_len hb8); have SB := hide ((unhide S8).below iC_len hb8); have SC := hide ((unhide S9).below yC_len hb8); have kz8 := unhide HKT _ (unhide Z8); obtain ⟨u0, u1, u2, u3, u4, u5⟩ := cells6 kz8; clear hb8 kz8)
            | (go_at_call 10; refine (equal_any (unhide HSL _ (unhide Z8)) (unhide SC) (unhide HBY) (unhide HBY)).mono ?_; rintro e z9 ⟨he9, rfl⟩; rw [decide_eq_true rfl] at he9; subst he9)
            | (go_at_call 11; refine (same_yes (unhide SA) (unhide SB) (by rw [unhide HK]; omega)).mono ?_; rintro e zA ⟨rfl, hbA⟩; have ZA : Hid (Below W0.heap.size W0 zA) := (unhide Z8).trans (hbA.mono (unhide Z8).size); clear hbA))
          go_ret
          exact ⟨rfl, unhide HZ _ (unhide ZA)⟩
end Go.Proofs.YtknpfippdddnhabDoor
