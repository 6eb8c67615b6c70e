/- CodeReach's walk. -/
import Derived.Test.YtknpfippdddnhaaDoorZ2
namespace Go.Proofs.YtknpfippdddnhaaDoor
open Go.RowKit Go.Shelf
set_option maxRecDepth 100000

def RwR (w : World) (e : Ending) (w' : World) : Prop := e = .returned (.bool true) ∧ Below w.heap.size w w'
set_option maxHeartbeats 3200000 in
/-- Nothing is read, or nothing is there. -/
theorem reach_none {w : World} {v : Value} {l : List Int} (hT : Tab w) (hs : SeesL yC 1 w v l) (hby : Byt l) (h : (dec l).2 ≠ 0 ∨ (dec l).1 = []) : Calls Tryd.prog 7 #[v] w fun e w' => RwR w e w' := by
  have HD := hide (decode_any hT hs hby)
  have HR : Hid (∀ z, Below w.heap.size w z → Calls Tryd.prog 21 #[v] z fun e w' => ∃ ao cap, e = .returned (.slice ao 0 cap) ∧ Below z.heap.size z w') := fun z hb => (reach_any (hT.below hb hT.pos) (hs.below yC_len hb) hby).mono fun e w' ⟨x, R, h1, h2, h3, h4, h5⟩ => by
    have hR : R = [] := by
      by_cases h0 : (dec l).2 = 0
      · obtain ⟨C, hC, rfl⟩ := h5 h0
        exact none_of h0 (h.resolve_left (fun x => x h0)) hC
      · exact h4 h0
    subst hR
    obtain ⟨ao, cap, rfl⟩ := own_shape h2
    exact ⟨ao, cap, h1, h3⟩
  have HT : Hid (∀ z, Below w.heap.size w z → Tab z) := fun z hb => hT.below hb hT.pos
  obtain ⟨ao, cap, rfl⟩ := hs.shape
  generalize l.length = n at *
  clear hs hT
  by_cases h0 : (dec l).2 = 0
  · have hl := h.resolve_left (fun x => x h0)
    rw [h0, hl] at HD
    clear h h0 hl
    go_enter Tryd.func7, Tryd.ntmps7
    go_wp2_with (first
      | (go_at_call 9; refine (unhide HD).mono ?_; rintro e z1 ⟨x, rfl, hb1, ho1⟩; obtain ⟨a1, c1, rfl⟩ := own_shape ho1; have HB1 := hide hb1; clear hb1 ho1)
      | (go_at_call 21; refine (unhide HR z1 (unhide HB1)).mono ?_; rintro e z2 ⟨a2, c2, rfl, hb2⟩; have HB2 : Hid (Below w.heap.size w z2) := (unhide HB1).trans (hb2.mono (unhide HB1).size); clear hb2)
      | (go_at_call 13; refine (live_any (unhide HT _ (unhide HB2))).mono ?_; rintro e z3 ⟨rfl, hb3⟩; have HB3 : Hid (Below w.heap.size w z3) := (unhide HB2).trans (hb3.mono (unhide HB2).size); clear hb3))
    go_ret
    exact ⟨rfl, unhide HB3⟩
  · obtain ⟨D, hD⟩ : ∃ D, (dec l).2 = D := ⟨_, rfl⟩
    have hne : (D == 0) = false := by rw [← hD]; simpa using h0
    have hne2 : (D != 0) = true := by rw [← hD]; simpa using h0
    rw [hD] at HD
    clear h h0 hD
    go_enter Tryd.func7, Tryd.ntmps7
    go_wp2_with (first
      | (go_at_call 9; refine (unhide HD).mono ?_; rintro e z1 ⟨x, rfl, hb1, ho1⟩; obtain ⟨a1, c1, rfl⟩ := own_shape ho1; have HB1 := hide hb1; clear hb1 ho1)
      | (go_at_call 21; refine (unhide HR z1 (unhide HB1)).mono ?_; rintro e z2 ⟨a2, c2, rfl, hb2⟩; have HB2 : Hid (Below w.heap.size w z2) := (unhide HB1).trans (hb2.mono (unhide HB1).size); clear hb2)
      | (go_at_call 13; refine (live_any (unhide HT _ (unhide HB2))).mono ?_; rintro e z3 ⟨rfl, hb3⟩; have HB3 : Hid (Below w.heap.size w z3) := (unhide HB2).trans (hb3.mono (unhide HB2).size); clear hb3))
    go_ret
    exact ⟨rfl, unhide HB3⟩
theorem first_cell {z : World} {a : Option Addr} {m c : Nat} {l : List Int} {L : List Ins} {R : List Int} (h : SeesL nC 1 z (.slice a m c) R) (hs : Shut l L R) : ∃ g o, a = some ⟨g, o, none⟩ ∧ z.cell? ⟨g, o, none⟩ = some (.int .i64 0) ∧ 0 < m ∧ ((m : Int) == 0) = false ∧ ∀ t, t < m → z.cell? ⟨g, o + t, none⟩ = some (.int .i64 (R.getD t 0)) := by
  obtain ⟨rfl, g, o, ha, hc⟩ := h.num
  obtain ⟨R', hR⟩ := hs.first
  have hp : 0 < R.length := by rw [hR]; simp
  refine ⟨g, o, ha hp, ?_, hp, beq_eq_false_iff_ne.2 (by omega), hc⟩
  have h0 := hc 0 hp
  rw [Nat.add_zero] at h0
  rw [h0, hR]
  rfl
theorem mem_no {x : Int} {R : List Int} (h : x ∉ R) : decide (x ∈ R) = false := decide_eq_false h
theorem mem_yes {x : Int} {R : List Int} (h : x ∈ R) : decide (x ∈ R) = true := decide_eq_true h
set_option maxHeartbeats 6400000 in
theorem reach_some {w : World} {v : Value} {l : List Int} (hT : Tab w) (hs : SeesL yC 1 w v l) (hby : Byt l) (hd0 : (dec l).2 = 0) (hl : (dec l).1 ≠ []) : Calls Tryd.prog 7 #[v] w fun e w' => RwR w e w' := by
  have hde := decode_any hT hs hby
  rw [hd0] at hde
  have HD := hide hde
  have HR : Hid (∀ z, Below w.heap.size w z → Calls Tryd.prog 21 #[v] z fun e w' => ∃ x R, e = .returned x ∧ SeesL nC 1 w' x R ∧ Shut l (dec l).1 R ∧ R.length ≤ 512 ∧ Below z.heap.size z w') := fun z hb => (reach_any (hT.below hb hT.pos) (hs.below yC_len hb) hby).mono fun e w' ⟨x, R, h1, h2, h3, h4, h5⟩ => by
    obtain ⟨C, hC, rfl⟩ := h5 hd0
    exact ⟨x, _, h1, (own_sees nC_len (by decide) h2).2, shut_of hby hd0 hl hC, rcN_len C 512, h3⟩
  have hl5 := (dec_ok hd0).1
  have HT : Hid (∀ z, Below w.heap.size w z → Tab z) := fun z hb => hT.below hb hT.pos
  have hk : (dec l).1.length ≤ 512 := by
    have ho : ∀ (n p : Nat) (L : List Ins), l.length - p ≤ n → wkR l p = (L, 0) → L.length ≤ l.length - p := by
      intro n
      induction n with
      | zero =>
        intro p L hn hw
        rw [wkR_end (by omega)] at hw
        simp only [Prod.mk.injEq] at hw
        rw [← hw.1]
        simp
      | succ n ih =>
        intro p L hn hw
        by_cases hp : p < l.length
        · by_cases h0 : oneE l p = 0
          · have hs := sA_pos h0
            rw [wkR_yes h0] at hw
            simp only [Prod.mk.injEq] at hw
            have := ih (p + sA l p) _ (by omega) (show wkR l (p + sA l p) = ((wkR l (p + sA l p)).1, 0) by rw [← hw.2])
            rw [← hw.1, List.length_cons]
            omega
          · rw [wkR_no hp h0] at hw
            simp only [Prod.mk.injEq] at hw
            exact absurd hw.2 h0
        · rw [wkR_end (by omega)] at hw
          simp only [Prod.mk.injEq] at hw
          rw [← hw.1]
          simp
    have := ho _ 0 _ (Nat.le_refl _) (dec_ok hd0).2.1
    omega
  have hkp : 0 < (dec l).1.length := List.length_pos_iff.2 hl
  generalize dec l = D at *
  obtain ⟨L, D2⟩ := D
  dsimp only at hd0 hl HD HR hk hkp
  obtain ⟨ao, cap, rfl⟩ := hs.shape
  obtain ⟨n, hn⟩ : ∃ n, l.length = n := ⟨_, rfl⟩
  rw [hn] at HD HR hl5 ⊢
  have HN := hide hn
  obtain ⟨k, hkk⟩ : ∃ k, L.length = k := ⟨_, rfl⟩
  rw [hkk] at HD hk hkp
  have HK := hide hkk
  have hk0 : ((k : Int) == 0) = false := by simp; omega
  clear hs hT hde hd0 hl hn hkk
  go_enter Tryd.func7, Tryd.ntmps7
  go_wp2_with (first
    | (go_at_call 9; refine (unhide HD).mono ?_; rintro e z1 ⟨x1, rfl, hb1, ho1⟩; obtain ⟨a1, c1, rfl⟩ := own_shape ho1; have HB1 := hide hb1; have HS1 := hide (own_sees iC_len (by decide) ho1).2; clear hb1 ho1)
    | (go_at_call 21; refine (unhide HR z1 (unhide HB1)).mono ?_; rintro e z2 ⟨x2, R, rfl, hs2, hsh, hrl, hb2⟩; obtain ⟨a2, c2, rfl⟩ := hs2.shape; obtain ⟨m, hm⟩ : ∃ m, R.length = m := ⟨_, rfl⟩; rw [hm] at hs2 hrl ⊢; have HM := hide hm; have HB2 : Hid (Below w.heap.size w z2) := (unhide HB1).trans (hb2.mono (unhide HB1).size); have HSL := hide ((unhide HS1).below iC_len hb2); have HSR := hide hs2; have HSH := hide hsh; clear hb2 hs2 hsh hm)
    | (go_at_call 13; refine (live_any (unhide HT _ (unhide HB2))).mono ?_; rintro e z3 ⟨rfl, hb3⟩; have HB3 : Hid (Below w.heap.size w z3) := (unhide HB2).trans (hb3.mono (unhide HB2).size); have HSL3 := hide ((unhide HSL).below iC_len hb3); have HSR3 := hide ((unhide HSR).below nC_len hb3); obtain ⟨gr, og, rfl, hc0, hrp, hr0, hcr⟩ := first_cell (unhide HSR3) (unhide HSH); have HCR := hide hcr; clear hb3 hcr))
  have HCN : Hid (∀ z, Grew z3 z → ∀ x, Calls Tryd.prog 30 #[.slice (some ⟨gr, og, none⟩) m c2, .int .i64 x] z fun e w' => e = .returned (.bool (decide (x ∈ R))) ∧ z = w') := fun z hz x => contains_any ((unhide HSR3).below nC_len hz.below) x
  clear hc0
  go_loopw [48] (fun c y => ∃ j : Nat, j ≤ k ∧ c = .int .i64 j ∧ Grew z3 y) (fun c _ => k - (intOf c).toNat)
  case atStart => exact ⟨0, Nat.zero_le _, rfl, grew_refl _⟩
  case round =>
    obtain ⟨y, rfl⟩ : ∃ y, y = wr := ⟨_, rfl⟩
    obtain ⟨j, hj, rfl, hg⟩ := hrel
    have HG := hide hg
    by_cases hlt : j < k
    · have hl2 : (j : Int) < (k : Int) := by omega
      obtain ⟨x, hx⟩ : ∃ x, L[j]? = some x := ⟨_, List.getElem?_eq_getElem (by rw [unhide HK]; exact hlt)⟩
      obtain ⟨ao', ca', gb, ob, hv, _, hao, hc⟩ := ((unhide HSL3).below iC_len hg.below).ins
      simp only [Value.slice.injEq] at hv
      obtain ⟨rfl, -, rfl⟩ := hv
      obtain rfl := hao (by rw [unhide HK]; omega)
      obtain ⟨d0, d1, d2, d3, d4⟩ := hc j x hx
      have hm := List.mem_of_getElem? hx
      obtain ⟨ho0, ho1, had0, had1⟩ := (unhide HSH).ops x hm
      have hnx := (unhide HSH).next x hm
      have hjm := (unhide HSH).jump x hm
      have hszf := op_facts ho0 ho1
      rw [unhide HN] at hnx
      obtain ⟨xd, xo, xa, xb, xm⟩ := x
      dsimp only at d0 d1 d2 d3 d4 ho0 ho1 had0 had1 hnx hjm hszf
      have HSZ : Hid (∀ z, Grew z3 z → Calls Tryd.prog 25 #[.int .i64 xo] z fun e w' => e = .returned (.tuple #[.int .i64 (sz xo), .bool true]) ∧ z = w') := fun z hz => size_yes xo z (unhide HT _ ((unhide HB3).trans (hz.below.mono (unhide HB3).size))) ho0 ho1
      unfold goes at hnx
      dsimp only at hnx
      have hs1 := hszf.1
      have hs4 := hszf.2.1
      clear hszf
      generalize sz xo = S at hnx HSZ hs1 hs4
      have hwS : IntKind.i64.wrap (xd + S) = xd + S := wrap_i64 _ (by omega) (by omega)
      clear hx hc hao hm hg
      by_cases hin : xd ∈ R
      · have hnx := hnx hin
        have hjm := hjm hin
        have HC1 : Hid (∀ z, Grew z3 z → Calls Tryd.prog 30 #[.slice (some ⟨gr, og, none⟩) m c2, .int .i64 xd] z fun e w' => e = .returned (.bool true) ∧ z = w') := fun z hz => by have := unhide HCN z hz xd; rw [mem_yes hin] at this; exact this
        clear hin
        by_cases e0 : xo = 0
        · subst e0
          clear hnx hjm
          go_wp2_with (first
              | (go_at_call 30; refine (unhide HC1 _ (grew_alloc (unhide HG) _)).mono ?_; rintro e q1 ⟨rfl, rfl⟩)
              | (go_at_call 25; refine (unhide HSZ _ (grew_alloc (unhide HG) _)).mono ?_; rintro e q1 ⟨rfl, rfl⟩))
          go_roundw
          case rel => exact ⟨j + 1, by omega, by go_num, grew_alloc (unhide HG) _⟩
          case measure => simp [intOf]; omega
        by_cases e25 : xo = 25
        · subst e25
          clear hnx hjm
          go_wp2_with (first
              | (go_at_call 30; refine (unhide HC1 _ (grew_alloc (unhide HG) _)).mono ?_; rintro e q1 ⟨rfl, rfl⟩)
              | (go_at_call 25; refine (unhide HSZ _ (grew_alloc (unhide HG) _)).mono ?_; rintro e q1 ⟨rfl, rfl⟩))
          go_roundw
          case rel => exact ⟨j + 1, by omega, by go_num, grew_alloc (unhide HG) _⟩
          case measure => simp [intOf]; omega
        by_cases e22 : xo = 22
        · subst e22
          have HC3 : Hid (∀ z, Grew z3 z → Calls Tryd.prog 30 #[.slice (some ⟨gr, og, none⟩) m c2, .int .i64 xm] z fun e w' => e = .returned (.bool true) ∧ z = w') := fun z hz => by have := unhide HCN z hz xm; rw [mem_yes (hjm (.inl rfl))] at this; exact this
          clear hnx hjm
          go_wp2_with (first
              | (go_at_call 30; refine (unhide HC1 _ (grew_alloc (unhide HG) _)).mono ?_; rintro e q1 ⟨rfl, rfl⟩)
              | (go_at_call 25; refine (unhide HSZ _ (grew_alloc (unhide HG) _)).mono ?_; rintro e q1 ⟨rfl, rfl⟩)
              | (go_at_call 30; refine (unhide HC3 _ (grew_alloc (unhide HG) _)).mono ?_; rintro e q1 ⟨rfl, rfl⟩))
          go_roundw
          case rel => exact ⟨j + 1, by omega, by go_num, grew_alloc (unhide HG) _⟩
          case measure => simp [intOf]; omega
        have hnx := hnx ⟨e0, e22, e25⟩
        by_cases hn2 : xd + S < (n : Int)
        · have hn3 : decide (xd + S < (n : Int)) = true := decide_eq_true hn2
          have HC2 : Hid (∀ z, Grew z3 z → Calls Tryd.prog 30 #[.slice (some ⟨gr, og, none⟩) m c2, .int .i64 (xd + S)] z fun e w' => e = .returned (.bool true) ∧ z = w') := fun z hz => by have := unhide HCN z hz (xd + S); rw [mem_yes (hnx hn2)] at this; exact this
          clear hnx
          by_cases e23 : xo = 23
          · subst e23
            have HC3 : Hid (∀ z, Grew z3 z → Calls Tryd.prog 30 #[.slice (some ⟨gr, og, none⟩) m c2, .int .i64 xm] z fun e w' => e = .returned (.bool true) ∧ z = w') := fun z hz => by have := unhide HCN z hz xm; rw [mem_yes (hjm (.inr rfl))] at this; exact this
            clear hjm
            go_wp2_with (first
                | (go_at_call 30; refine (unhide HC1 _ (grew_alloc (unhide HG) _)).mono ?_; rintro e q1 ⟨rfl, rfl⟩)
                | (go_at_call 25; refine (unhide HSZ _ (grew_alloc (unhide HG) _)).mono ?_; rintro e q1 ⟨rfl, rfl⟩)
                | (go_at_call 30; refine (unhide HC2 _ (grew_alloc (unhide HG) _)).mono ?_; rintro e q1 ⟨rfl, rfl⟩)
                | (go_at_call 30; refine (unhide HC3 _ (grew_alloc (unhide HG) _)).mono ?_; rintro e q1 ⟨rfl, rfl⟩))
            go_roundw
            case rel => exact ⟨j + 1, by omega, by go_num, grew_alloc (unhide HG) _⟩
            case measure => simp [intOf]; omega
          · have g0 : (xo == 0) = false := by simpa using e0
            have g25 : (xo == 25) = false := by simpa using e25
            have g22 : (xo == 22) = false := by simpa using e22
            have g23 : (xo == 23) = false := by simpa using e23
            have f0 : (xo != 0) = true := by simpa using e0
            have f25 : (xo != 25) = true := by simpa using e25
            have f22 : (xo != 22) = true := by simpa using e22
            have f23 : (xo != 23) = true := by simpa using e23
            clear hjm e0 e25 e22 e23
            go_wp2_with (first
                | (go_at_call 30; refine (unhide HC1 _ (grew_alloc (unhide HG) _)).mono ?_; rintro e q1 ⟨rfl, rfl⟩)
                | (go_at_call 25; refine (unhide HSZ _ (grew_alloc (unhide HG) _)).mono ?_; rintro e q1 ⟨rfl, rfl⟩)
                | (go_at_call 30; refine (unhide HC2 _ (grew_alloc (unhide HG) _)).mono ?_; rintro e q1 ⟨rfl, rfl⟩))
            go_roundw
            case rel => exact ⟨j + 1, by omega, by go_num, grew_alloc (unhide HG) _⟩
            case measure => simp [intOf]; omega
        · have hn3 : decide (xd + S < (n : Int)) = false := decide_eq_false hn2
          clear hn2
          clear hnx
          by_cases e23 : xo = 23
          · subst e23
            have HC3 : Hid (∀ z, Grew z3 z → Calls Tryd.prog 30 #[.slice (some ⟨gr, og, none⟩) m c2, .int .i64 xm] z fun e w' => e = .returned (.bool true) ∧ z = w') := fun z hz => by have := unhide HCN z hz xm; rw [mem_yes (hjm (.inr rfl))] at this; exact this
            clear hjm
            go_wp2_with (first
                | (go_at_call 30; refine (unhide HC1 _ (grew_alloc (unhide HG) _)).mono ?_; rintro e q1 ⟨rfl, rfl⟩)
                | (go_at_call 25; refine (unhide HSZ _ (grew_alloc (unhide HG) _)).mono ?_; rintro e q1 ⟨rfl, rfl⟩)
                | (go_at_call 30; refine (unhide HC3 _ (grew_alloc (unhide HG) _)).mono ?_; rintro e q1 ⟨rfl, rfl⟩))
            go_roundw
            case rel => exact ⟨j + 1, by omega, by go_num, grew_alloc (unhide HG) _⟩
            case measure => simp [intOf]; omega
          · have g0 : (xo == 0) = false := by simpa using e0
            have g25 : (xo == 25) = false := by simpa using e25
            have g22 : (xo == 22) = false := by simpa using e22
            have g23 : (xo == 23) = false := by simpa using e23
            have f0 : (xo != 0) = true := by simpa using e0
            have f25 : (xo != 25) = true := by simpa using e25
            have f22 : (xo != 22) = true := by simpa using e22
            have f23 : (xo != 23) = true := by simpa using e23
            clear hjm e0 e25 e22 e23
            go_wp2_with (first
                | (go_at_call 30; refine (unhide HC1 _ (grew_alloc (unhide HG) _)).mono ?_; rintro e q1 ⟨rfl, rfl⟩)
                | (go_at_call 25; refine (unhide HSZ _ (grew_alloc (unhide HG) _)).mono ?_; rintro e q1 ⟨rfl, rfl⟩))
            go_roundw
            case rel => exact ⟨j + 1, by omega, by go_num, grew_alloc (unhide HG) _⟩
            case measure => simp [intOf]; omega
      · have HC1 : Hid (∀ z, Grew z3 z → Calls Tryd.prog 30 #[.slice (some ⟨gr, og, none⟩) m c2, .int .i64 xd] z fun e w' => e = .returned (.bool false) ∧ z = w') := fun z hz => by have := unhide HCN z hz xd; rw [mem_no hin] at this; exact this
        clear hin hnx hjm
        go_wp2_with (first
            | (go_at_call 30; refine (unhide HC1 _ (grew_alloc (unhide HG) _)).mono ?_; rintro e q1 ⟨rfl, rfl⟩))
        go_roundw
        case rel => exact ⟨j + 1, by omega, by go_num, grew_alloc (unhide HG) _⟩
        case measure => simp [intOf]; omega
    · clear hg
      go_wp2
      go_loopw [113] (fun c q => ∃ j : Nat, j ≤ m ∧ c = .int .i64 j ∧ Grew z3 q) (fun c _ => m - (intOf c).toNat)
      case atStart => exact ⟨0, Nat.zero_le _, rfl, unhide HG⟩
      case round =>
        obtain ⟨q, rfl⟩ : ∃ q, q = wr := ⟨_, rfl⟩
        obtain ⟨i, hi, rfl, hg⟩ := hrel
        have HQ := hide hg
        by_cases hlt2 : i < m
        · have hl2 : (i : Int) < (m : Int) := by omega
          have hci : q.cell? ⟨gr, og + i, none⟩ = some (.int .i64 (R.getD i 0)) := (hg.below.cell (World.block_lt_of_cell? z3 _ (unhide HCR i hlt2))).trans (unhide HCR i hlt2)
          have hmR : R.getD i 0 ∈ R := by
            have : i < R.length := by rw [unhide HM]; exact hlt2
            simp [List.getD, this]
          have hex := (unhide HSH).own _ hmR
          have hris := (unhide HSH).rises
          obtain ⟨A, hA⟩ : ∃ A, R.getD i 0 = A := ⟨_, rfl⟩
          rw [hA] at hci hex
          obtain ⟨Y, hY⟩ : ∃ Y, q.alloc (.cells #[.int .i64 A] 3) = Y := ⟨_, rfl⟩
          have hqY : Below q.heap.size q Y := by rw [← hY]; exact below_box _
          have hYc : Y.heap[q.heap.size]? = some (.cells #[.int .i64 A] 3) := by rw [← hY]; exact heap_alloc_new q _
          have hgY : Grew z3 Y := by rw [← hY]; exact grew_alloc hg _
          have HCF : Hid (∀ z, Grew Y z → Calls Tryd.prog 31 #[.slice a1 k c1, .func (Fn.func 32) #[] #[.pointer (some ⟨q.heap.size, 0, none⟩)]] z fun e w' => e = .returned (.bool true) ∧ Grew z w') := fun z hz => containsF_any ((unhide HSL3).below iC_len (grew_trans hgY hz).below) _ A (cell_at ((hz.below.block _ (Array.getElem?_eq_some_iff.1 hYc).1).trans hYc)) hex
          have HGY := hide hgY
          have HY1 : Hid (Grew Y Y.drew) := grew_drew (grew_refl Y)
          rcases Nat.eq_zero_or_pos i with h0 | h0
          · subst h0
            simp only [Nat.add_zero] at hci
            clear hg hmR hex hris hA hqY hYc hgY
            go_wp2
            try rw [hY]
            clear hY
            refine wp_region_held_drew (S := fun _ => True) (by kernel_rfl) trivial (fun hHeld => ?_)
            refine wpAnyH_take (i := 0) (v := ?v1x0) rfl (by kernel_rfl) (by kernel_rfl) (by kernel_rfl) (fun _ _ _ h => h) (Or.inl ⟨by rfl, ?hy1x0⟩) (by assumption) ?rest1x0
            case hy1x0 => intro w hSw; go_simp <;> with_reducible rfl
            simp only [Act.put, List.getElem_toArray, List.getElem_cons_zero, List.setIfInBounds_toArray, List.set_cons_zero, List.set_cons_succ]
            refine wpAnyH_take (i := 1) (v := ?v2x1) rfl (by kernel_rfl) (by kernel_rfl) (by kernel_rfl) (fun _ _ _ h => h) (Or.inl ⟨by rfl, ?hy2x1⟩) (by assumption) ?rest2x1
            case hy2x1 => intro w hSw; go_simp <;> with_reducible rfl
            simp only [Act.put, List.getElem_toArray, List.getElem_cons_zero, List.getElem_cons_succ, List.setIfInBounds_toArray, List.set_cons_zero, List.set_cons_succ]
            refine wpAnyH_take (i := 2) (v := ?v3x2) rfl (by kernel_rfl) (by kernel_rfl) (by kernel_rfl) (fun _ _ _ h => h) (Or.inl ⟨by rfl, ?hy3x2⟩) (by assumption) ?rest3x2
            case hy3x2 => intro w hSw; go_simp <;> with_reducible rfl
            simp only [Act.put, List.getElem_toArray, List.getElem_cons_zero, List.getElem_cons_succ, List.setIfInBounds_toArray, List.set_cons_zero, List.set_cons_succ]
            refine wpAnyH_take (i := 3) (v := undef) rfl (by kernel_rfl) (by kernel_rfl) (by kernel_rfl) (fun _ _ _ h => h) (Or.inr ⟨by rfl, rfl⟩) (by assumption) ?_
            simp only [Act.put, List.getElem_toArray, List.getElem_cons_zero, List.getElem_cons_succ, List.setIfInBounds_toArray, List.set_cons_zero, List.set_cons_succ]
            refine wpAnyH_take (i := 4) (v := undef) rfl (by kernel_rfl) (by kernel_rfl) (by kernel_rfl) (fun _ _ _ h => h) (Or.inr ⟨by rfl, rfl⟩) (by assumption) ?_
            simp only [Act.put, List.getElem_toArray, List.getElem_cons_zero, List.getElem_cons_succ, List.setIfInBounds_toArray, List.set_cons_zero, List.set_cons_succ]
            refine wpAnyH_take (i := 5) (v := undef) rfl (by kernel_rfl) (by kernel_rfl) (by kernel_rfl) (fun _ _ _ h => h) (Or.inr ⟨by rfl, rfl⟩) (by assumption) ?_
            simp only [Act.put, List.getElem_toArray, List.getElem_cons_zero, List.getElem_cons_succ, List.setIfInBounds_toArray, List.set_cons_zero, List.set_cons_succ]
            refine wpAnyH_take (i := 6) (v := undef) rfl (by kernel_rfl) (by kernel_rfl) (by kernel_rfl) (fun _ _ _ h => h) (Or.inr ⟨by rfl, rfl⟩) (by assumption) ?_
            simp only [Act.put, List.getElem_toArray, List.getElem_cons_zero, List.getElem_cons_succ, List.setIfInBounds_toArray, List.set_cons_zero, List.set_cons_succ]
            refine wpAnyH_take (i := 7) (v := undef) rfl (by kernel_rfl) (by kernel_rfl) (by kernel_rfl) (fun _ _ _ h => h) (Or.inr ⟨by rfl, rfl⟩) (by assumption) ?_
            simp only [Act.put, List.getElem_toArray, List.getElem_cons_zero, List.getElem_cons_succ, List.setIfInBounds_toArray, List.set_cons_zero, List.set_cons_succ]
            refine wpAnyH_take (i := 8) (v := undef) rfl (by kernel_rfl) (by kernel_rfl) (by kernel_rfl) (fun _ _ _ h => h) (Or.inr ⟨by rfl, rfl⟩) (by assumption) ?_
            simp only [Act.put, List.getElem_toArray, List.getElem_cons_zero, List.getElem_cons_succ, List.setIfInBounds_toArray, List.set_cons_zero, List.set_cons_succ]
            refine wpAnyH_take (i := 9) (v := undef) rfl (by kernel_rfl) (by kernel_rfl) (by kernel_rfl) (fun _ _ _ h => h) (Or.inr ⟨by rfl, rfl⟩) (by assumption) ?_
            simp only [Act.put, List.getElem_toArray, List.getElem_cons_zero, List.getElem_cons_succ, List.setIfInBounds_toArray, List.set_cons_zero, List.set_cons_succ]
            refine wpAnyH_take (i := 10) (v := ?v11x10) rfl (by kernel_rfl) (by kernel_rfl) (by kernel_rfl) (fun _ _ _ h => h) (Or.inl ⟨by rfl, ?hy11x10⟩) (by assumption) ?rest11x10
            case hy11x10 => intro w hSw; go_simp <;> with_reducible rfl
            simp only [Act.put, List.getElem_toArray, List.getElem_cons_zero, List.getElem_cons_succ, List.setIfInBounds_toArray, List.set_cons_zero, List.set_cons_succ]
            refine wpAnyH_take (i := 11) (v := ?v12x11) rfl (by kernel_rfl) (by kernel_rfl) (by kernel_rfl) (fun _ _ _ h => h) (Or.inl ⟨by rfl, ?hy12x11⟩) (by assumption) ?rest12x11
            case hy12x11 => intro w hSw; go_simp <;> with_reducible rfl
            simp only [Act.put, List.getElem_toArray, List.getElem_cons_zero, List.getElem_cons_succ, List.setIfInBounds_toArray, List.set_cons_zero, List.set_cons_succ]
            refine wpAnyH_take (i := 12) (v := ?v13x12) rfl (by kernel_rfl) (by kernel_rfl) (by kernel_rfl) (fun _ _ _ h => h) (Or.inl ⟨by rfl, ?hy13x12⟩) (by assumption) ?rest13x12
            case hy13x12 => intro w hSw; go_simp <;> with_reducible rfl
            simp only [Act.put, List.getElem_toArray, List.getElem_cons_zero, List.getElem_cons_succ, List.setIfInBounds_toArray, List.set_cons_zero, List.set_cons_succ]
            refine wpAnyH_take (i := 13) (v := ?v14x13) rfl (by kernel_rfl) (by kernel_rfl) (by kernel_rfl) (fun _ _ _ h => h) (Or.inl ⟨by rfl, ?hy14x13⟩) (by assumption) ?rest14x13
            case hy14x13 => intro w hSw; go_simp <;> with_reducible rfl
            simp only [Act.put, List.getElem_toArray, List.getElem_cons_zero, List.getElem_cons_succ, List.setIfInBounds_toArray, List.set_cons_zero, List.set_cons_succ]
            refine wpAnyH_ready (rs := [14]) (by kernel_rfl) (by simp) ?_
            refine AllReadyH.cons rfl (fun K hK => ?_) AllReadyH.nil
            go_simp
            refine (unhide HCF Y.drew (unhide HY1)).mono ?_
            rintro e z ⟨rfl, hg1⟩
            refine hK _ _ trivial ?_
            clear hK hHeld
            intro hHeld
            refine wpAnyH_take (i := 15) (v := ?v15x15) rfl (by kernel_rfl) (by kernel_rfl) (by kernel_rfl) (fun _ _ _ h => h) (Or.inl ⟨by rfl, ?hy15x15⟩) (by assumption) ?rest15x15
            case hy15x15 => intro w hSw; go_simp <;> with_reducible rfl
            simp only [Act.put, List.getElem_toArray, List.getElem_cons_zero, List.getElem_cons_succ, List.setIfInBounds_toArray, List.set_cons_zero, List.set_cons_succ]
            refine wpAnyH_take (i := 16) (v := ?v16x16) rfl (by kernel_rfl) (by kernel_rfl) (by kernel_rfl) (fun _ _ _ h => h) (Or.inl ⟨by rfl, ?hy16x16⟩) (by assumption) ?rest16x16
            case hy16x16 => intro w hSw; go_simp <;> with_reducible rfl
            simp only [Act.put, List.getElem_toArray, List.getElem_cons_zero, List.getElem_cons_succ, List.setIfInBounds_toArray, List.set_cons_zero, List.set_cons_succ]
            refine wpAnyH_done (by kernel_rfl) ?_ _
            go_wp2
            go_roundw
            case rel => exact ⟨1, by omega, by go_num, grew_trans (grew_drew (unhide HGY)) hg1⟩
            case measure => simp [intOf]; omega
          · obtain ⟨i', rfl⟩ : ∃ i', i = i' + 1 := ⟨i - 1, by omega⟩
            have hlt3 : i' < m := by omega
            have hcb : z3.cell? ⟨gr, og + i', none⟩ = some (.int .i64 (R.getD i' 0)) := unhide HCR i' hlt3
            have hBA : R.getD i' 0 < A := by
              rw [← hA]
              have h1 : i' < R.length := by rw [unhide HM]; omega
              have h2 : i' + 1 < R.length := by rw [unhide HM]; omega
              have := List.pairwise_iff_getElem.1 hris i' (i' + 1) h1 h2 (by omega)
              simpa [List.getD, h1, h2] using this
            obtain ⟨B, hB⟩ : ∃ B, R.getD i' 0 = B := ⟨_, rfl⟩
            rw [hB] at hcb hBA
            have HY3 : Hid (Y.cell? ⟨q.heap.size, 0, none⟩ = some (.int .i64 A) ∧ Y.cell? ⟨gr, og + i', none⟩ = some (.int .i64 B)) := ⟨cell_at hYc, (hgY.below.cell (World.block_lt_of_cell? z3 _ hcb)).trans hcb⟩
            have hle : decide (A ≤ B) = false := decide_eq_false (by omega)
            have hw8 : IntKind.i64.wrap (i' : Int) = i' := by rw [wrap_i64] <;> omega
            have hlt4 : (i' : Int) < (m : Int) := by omega
            clear hg hmR hex hris hA hqY hYc hgY hB hBA hcb
            go_wp2
            try rw [hY]
            clear hY
            refine wp_region_held_drew (S := fun x => x.cell? ⟨q.heap.size, 0, none⟩ = some (.int .i64 A) ∧ x.cell? ⟨gr, og + i', none⟩ = some (.int .i64 B)) (by kernel_rfl) (unhide HY3) (fun hHeld => ?_)
            refine wpAnyH_take (i := 0) (v := ?v17x0) rfl (by kernel_rfl) (by kernel_rfl) (by kernel_rfl) (fun _ _ _ h => h) (Or.inl ⟨by rfl, ?hy17x0⟩) (by assumption) ?rest17x0
            case hy17x0 => intro w hSw; obtain ⟨s1, s2⟩ := hSw; go_simp <;> with_reducible rfl
            simp only [Act.put, List.getElem_toArray, List.getElem_cons_zero, List.setIfInBounds_toArray, List.set_cons_zero, List.set_cons_succ]
            refine wpAnyH_take (i := 1) (v := ?v18x1) rfl (by kernel_rfl) (by kernel_rfl) (by kernel_rfl) (fun _ _ _ h => h) (Or.inl ⟨by rfl, ?hy18x1⟩) (by assumption) ?rest18x1
            case hy18x1 => intro w hSw; obtain ⟨s1, s2⟩ := hSw; go_simp <;> with_reducible rfl
            simp only [Act.put, List.getElem_toArray, List.getElem_cons_zero, List.getElem_cons_succ, List.setIfInBounds_toArray, List.set_cons_zero, List.set_cons_succ]
            refine wpAnyH_take (i := 2) (v := ?v19x2) rfl (by kernel_rfl) (by kernel_rfl) (by kernel_rfl) (fun _ _ _ h => h) (Or.inl ⟨by rfl, ?hy19x2⟩) (by assumption) ?rest19x2
            case hy19x2 => intro w hSw; obtain ⟨s1, s2⟩ := hSw; go_simp <;> with_reducible rfl
            simp only [Act.put, List.getElem_toArray, List.getElem_cons_zero, List.getElem_cons_succ, List.setIfInBounds_toArray, List.set_cons_zero, List.set_cons_succ]
            refine wpAnyH_take (i := 3) (v := ?v20x3) rfl (by kernel_rfl) (by kernel_rfl) (by kernel_rfl) (fun _ _ _ h => h) (Or.inl ⟨by rfl, ?hy20x3⟩) (by assumption) ?rest20x3
            case hy20x3 => intro w hSw; obtain ⟨s1, s2⟩ := hSw; go_simp <;> with_reducible rfl
            simp only [Act.put, List.getElem_toArray, List.getElem_cons_zero, List.getElem_cons_succ, List.setIfInBounds_toArray, List.set_cons_zero, List.set_cons_succ]
            refine wpAnyH_take (i := 4) (v := ?v21x4) rfl (by kernel_rfl) (by kernel_rfl) (by kernel_rfl) (fun _ _ _ h => h) (Or.inl ⟨by rfl, ?hy21x4⟩) (by assumption) ?rest21x4
            case hy21x4 => intro w hSw; obtain ⟨s1, s2⟩ := hSw; go_simp <;> with_reducible rfl
            simp only [Act.put, List.getElem_toArray, List.getElem_cons_zero, List.getElem_cons_succ, List.setIfInBounds_toArray, List.set_cons_zero, List.set_cons_succ]
            refine wpAnyH_take (i := 5) (v := ?v22x5) rfl (by kernel_rfl) (by kernel_rfl) (by kernel_rfl) (fun _ _ _ h => h) (Or.inl ⟨by rfl, ?hy22x5⟩) (by assumption) ?rest22x5
            case hy22x5 => intro w hSw; obtain ⟨s1, s2⟩ := hSw; go_simp <;> with_reducible rfl
            simp only [Act.put, List.getElem_toArray, List.getElem_cons_zero, List.getElem_cons_succ, List.setIfInBounds_toArray, List.set_cons_zero, List.set_cons_succ]
            refine wpAnyH_take (i := 6) (v := ?v23x6) rfl (by kernel_rfl) (by kernel_rfl) (by kernel_rfl) (fun _ _ _ h => h) (Or.inl ⟨by rfl, ?hy23x6⟩) (by assumption) ?rest23x6
            case hy23x6 => intro w hSw; obtain ⟨s1, s2⟩ := hSw; go_simp <;> with_reducible rfl
            simp only [Act.put, List.getElem_toArray, List.getElem_cons_zero, List.getElem_cons_succ, List.setIfInBounds_toArray, List.set_cons_zero, List.set_cons_succ]
            refine wpAnyH_take (i := 7) (v := ?v24x7) rfl (by kernel_rfl) (by kernel_rfl) (by kernel_rfl) (fun _ _ _ h => h) (Or.inl ⟨by rfl, ?hy24x7⟩) (by assumption) ?rest24x7
            case hy24x7 => intro w hSw; obtain ⟨s1, s2⟩ := hSw; go_simp <;> with_reducible rfl
            simp only [Act.put, List.getElem_toArray, List.getElem_cons_zero, List.getElem_cons_succ, List.setIfInBounds_toArray, List.set_cons_zero, List.set_cons_succ]
            refine wpAnyH_take (i := 8) (v := ?v25x8) rfl (by kernel_rfl) (by kernel_rfl) (by kernel_rfl) (fun _ _ _ h => h) (Or.inl ⟨by rfl, ?hy25x8⟩) (by assumption) ?rest25x8
            case hy25x8 => intro w hSw; obtain ⟨s1, s2⟩ := hSw; go_simp <;> with_reducible rfl
            simp only [Act.put, List.getElem_toArray, List.getElem_cons_zero, List.getElem_cons_succ, List.setIfInBounds_toArray, List.set_cons_zero, List.set_cons_succ]
            refine wpAnyH_take (i := 9) (v := ?v26x9) rfl (by kernel_rfl) (by kernel_rfl) (by kernel_rfl) (fun _ _ _ h => h) (Or.inl ⟨by rfl, ?hy26x9⟩) (by assumption) ?rest26x9
            case hy26x9 => intro w hSw; obtain ⟨s1, s2⟩ := hSw; go_simp <;> with_reducible rfl
            simp only [Act.put, List.getElem_toArray, List.getElem_cons_zero, List.getElem_cons_succ, List.setIfInBounds_toArray, List.set_cons_zero, List.set_cons_succ]
            refine wpAnyH_take (i := 10) (v := ?v27x10) rfl (by kernel_rfl) (by kernel_rfl) (by kernel_rfl) (fun _ _ _ h => h) (Or.inl ⟨by rfl, ?hy27x10⟩) (by assumption) ?rest27x10
            case hy27x10 => intro w hSw; obtain ⟨s1, s2⟩ := hSw; go_simp <;> with_reducible rfl
            simp only [Act.put, List.getElem_toArray, List.getElem_cons_zero, List.getElem_cons_succ, List.setIfInBounds_toArray, List.set_cons_zero, List.set_cons_succ]
            refine wpAnyH_take (i := 11) (v := ?v28x11) rfl (by kernel_rfl) (by kernel_rfl) (by kernel_rfl) (fun _ _ _ h => h) (Or.inl ⟨by rfl, ?hy28x11⟩) (by assumption) ?rest28x11
            case hy28x11 => intro w hSw; obtain ⟨s1, s2⟩ := hSw; go_simp <;> with_reducible rfl
            simp only [Act.put, List.getElem_toArray, List.getElem_cons_zero, List.getElem_cons_succ, List.setIfInBounds_toArray, List.set_cons_zero, List.set_cons_succ]
            refine wpAnyH_take (i := 12) (v := ?v29x12) rfl (by kernel_rfl) (by kernel_rfl) (by kernel_rfl) (fun _ _ _ h => h) (Or.inl ⟨by rfl, ?hy29x12⟩) (by assumption) ?rest29x12
            case hy29x12 => intro w hSw; obtain ⟨s1, s2⟩ := hSw; go_simp <;> with_reducible rfl
            simp only [Act.put, List.getElem_toArray, List.getElem_cons_zero, List.getElem_cons_succ, List.setIfInBounds_toArray, List.set_cons_zero, List.set_cons_succ]
            refine wpAnyH_take (i := 13) (v := ?v30x13) rfl (by kernel_rfl) (by kernel_rfl) (by kernel_rfl) (fun _ _ _ h => h) (Or.inl ⟨by rfl, ?hy30x13⟩) (by assumption) ?rest30x13
            case hy30x13 => intro w hSw; obtain ⟨s1, s2⟩ := hSw; go_simp <;> with_reducible rfl
            simp only [Act.put, List.getElem_toArray, List.getElem_cons_zero, List.getElem_cons_succ, List.setIfInBounds_toArray, List.set_cons_zero, List.set_cons_succ]
            refine wpAnyH_ready (rs := [14]) (by kernel_rfl) (by simp) ?_
            refine AllReadyH.cons rfl (fun K hK => ?_) AllReadyH.nil
            go_simp
            refine (unhide HCF Y.drew (unhide HY1)).mono ?_
            rintro e z ⟨rfl, hg1⟩
            refine hK _ _ ⟨(hg1.below.cell (World.block_lt_of_cell? Y.drew _ (unhide HY3).1)).trans (unhide HY3).1, (hg1.below.cell (World.block_lt_of_cell? Y.drew _ (unhide HY3).2)).trans (unhide HY3).2⟩ ?_
            clear hK hHeld
            intro hHeld
            refine wpAnyH_take (i := 15) (v := ?v31x15) rfl (by kernel_rfl) (by kernel_rfl) (by kernel_rfl) (fun _ _ _ h => h) (Or.inl ⟨by rfl, ?hy31x15⟩) (by assumption) ?rest31x15
            case hy31x15 => intro w hSw; obtain ⟨s1, s2⟩ := hSw; go_simp <;> with_reducible rfl
            simp only [Act.put, List.getElem_toArray, List.getElem_cons_zero, List.getElem_cons_succ, List.setIfInBounds_toArray, List.set_cons_zero, List.set_cons_succ]
            refine wpAnyH_take (i := 16) (v := ?v32x16) rfl (by kernel_rfl) (by kernel_rfl) (by kernel_rfl) (fun _ _ _ h => h) (Or.inl ⟨by rfl, ?hy32x16⟩) (by assumption) ?rest32x16
            case hy32x16 => intro w hSw; obtain ⟨s1, s2⟩ := hSw; go_simp <;> with_reducible rfl
            simp only [Act.put, List.getElem_toArray, List.getElem_cons_zero, List.getElem_cons_succ, List.setIfInBounds_toArray, List.set_cons_zero, List.set_cons_succ]
            refine wpAnyH_done (by kernel_rfl) ?_ _
            go_wp2
            go_roundw
            case rel => exact ⟨i' + 1 + 1, by omega, by go_num, grew_trans (grew_drew (unhide HGY)) hg1⟩
            case measure => simp [intOf]; omega
        · clear hg
          go_wp2
          go_ret
          exact ⟨rfl, (unhide HB3).trans ((unhide HQ).below.mono (unhide HB3).size)⟩
theorem reach_walk {w : World} {v : Value} {l : List Int} (hT : Tab w) (hs : SeesL yC 1 w v l) (hby : Byt l) : Calls Tryd.prog 7 #[v] w fun e w' => RwR w e w' := by
  by_cases h0 : (dec l).2 = 0
  · by_cases hl : (dec l).1 = []
    · exact reach_none hT hs hby (.inr hl)
    · exact reach_some hT hs hby h0 hl
  · exact reach_none hT hs hby (.inl h0)
end Go.Proofs.YtknpfippdddnhaaDoor
