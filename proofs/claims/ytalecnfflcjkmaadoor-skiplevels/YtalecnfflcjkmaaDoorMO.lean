/- SkipLevels' walk. -/
import Derived.Test.YtalecnfflcjkmaaDoorP1
import Derived.Test.YtalecnfflcjkmaaDoorRV
namespace Go.Proofs.YtalecnfflcjkmaaDoor
open Go.RowKit Go.Shelf
attribute [local go_sem] Oper.semAt_some
set_option maxRecDepth 100000

set_option maxHeartbeats 4000000 in
theorem levels_walk (seed : Int) (hseed : 0 ≤ seed ∧ seed < 18446744073709551616) (ao : Option Addr) (n cap gb ob : Nat) (ops : List Opn) (k : Ky) (w : World) (hT : Tab w) (hw : 0 < w.heap.size) (hn : n ≤ cap) (hcap : n ≤ 140737488351232) (hao : ao = none → cap = 0) (haoS : 0 < n → ao = some ⟨gb, ob, none⟩)
    (hops : ∀ t, t < n → (∀ j, j < 9 → w.cell? ⟨gb, ob + t * 9 + j, none⟩ = (oC (ops.getD t default))[j]?) ∧ OkO (ops.getD t default)) :
    Calls Tryd.prog 6 #[.int .u64 seed, .slice ao n cap, .agg #[.int .i32 k.1, .int .i64 k.2]] w fun e w' => e = .returned (.bool true) ∧ Below w.heap.size w w' := by
  obtain ⟨n0, hn0⟩ : ∃ x, w.heap.size = x := ⟨_, rfl⟩
  obtain ⟨Wa, hWa⟩ : ∃ W, w.alloc (.cells #[.int .i32 k.1, .int .i64 k.2] 30) = W := ⟨_, rfl⟩
  obtain ⟨b0, hb0⟩ : ∃ x, n0 + 1 = x := ⟨_, rfl⟩
  have hba : Below n0 w Wa := by rw [← hWa, ← hn0]; exact (Below.refl _ _).alloc (Nat.le_refl _) _
  have hsa : Wa.heap.size = b0 := by rw [← hWa, ← hb0, ← hn0]; simp
  have ka : Wa.heap[n0]? = some (.cells #[.int .i32 k.1, .int .i64 k.2] 30) := by rw [← hWa, ← hn0]; exact heap_new1 _ _
  have HN := hide (new_any Wa seed b0 (by omega) hseed)
  obtain ⟨sb, hsb⟩ : ∃ x, b0 + 1 = x := ⟨_, rfl⟩
  rw [hsa, hsb] at HN
  have HA := hide (And.intro hba (And.intro hsa (And.intro ka (hT.keep (hba.block 0 (by omega))))))
  have HOPS := hide hops
  have hn00 : 0 < n0 := by omega
  rw [hn0]
  clear hba hsa ka hT hseed hw hops
  go_enter Tryd.func6, Tryd.ntmps6
  go_wp2_with fail
  try rw [hWa]
  refine (unhide HN).mono ?_
  rintro e w1 ⟨rfl, h1, hb1⟩
  clear hWa
  obtain ⟨hba, hsa, ka, hTa⟩ := unhide HA
  have hT1 : Tab w1 := hTa.keep (hb1.block 0 (by omega))
  have HBE := hide (begun_any w1 hT1 (by have := h1.lt (.inl rfl); omega))
  have H1 := hide (And.intro h1 hb1)
  have HT1 := hide hT1
  clear h1 hb1 hba hsa ka hTa hT1
  go_wp2_with fail
  refine (unhide HBE).mono ?_
  rintro e w2 ⟨rfl, hb2⟩
  obtain ⟨hba, hsa, ka, hTa⟩ := unhide HA
  obtain ⟨h1, hb1⟩ := unhide H1
  have hs1 : b0 < w1.heap.size := h1.lt (.inr (.inl rfl))
  have hb12 : Below b0 Wa w2 := hb1.trans (hb2.mono (by omega))
  have HB2 := hide hb2
  have HBW : Hid (Below n0 w w2) := hba.trans (hb12.mono (by omega))
  have HK2 : Hid (w2.heap[n0]? = some (.cells #[.int .i32 k.1, .int .i64 k.2] 30)) := (hb12.block n0 (by omega)).trans ka
  have HT2 : Hid (Tab w2) := (unhide HT1).keep (hb2.block 0 (by omega))
  clear h1 hb1 hba hsa ka hTa hs1 hb12
  by_cases hm : 300 < n
  · go_wp2
    clear hb2
    go_loopw [29] (fun t wr => ∃ i : Nat, i ≤ 300 ∧ t = .int .i64 i ∧ Below b0 w2 wr ∧ ∃ L luck, Sk wr b0 sb b0 L luck ∧ L.length ≤ i) (fun t _ => 300 - (intOf t).toNat)
    case atStart =>
      obtain ⟨h1, hb1⟩ := unhide H1
      exact ⟨0, by omega, rfl, Below.refl _ _, [], _, h1.below (unhide HB2), by simp⟩
    case round =>
      obtain ⟨i, hi, rfl, hbr, L, luck, hs, hlen⟩ := hrel
      by_cases hlt : i < 300
      · obtain ⟨hcl, hok⟩ := unhide HOPS i (by omega)
        obtain rfl := haoS (by omega)
        obtain ⟨o, ho⟩ : ∃ o, ops.getD i default = o := ⟨_, rfl⟩
        rw [ho] at hok
        replace hcl : ∀ j, j < 9 → wr.cell? ⟨gb, ob + i * 9 + j, none⟩ = (oC o)[j]? := fun j hj => by
          have h0 := hcl j hj
          rw [ho] at h0
          have hlt' : gb < n0 := by
            have := List.getElem?_eq_getElem (l := oC o) (i := j) hj
            rw [this] at h0
            rw [← hn0]; exact World.block_lt_of_cell? w _ h0
          rw [← h0]
          exact ((unhide HBW).trans (hbr.mono (by omega))).cell (p := ⟨gb, ob + i * 9 + j, none⟩) hlt'
        obtain ⟨d, ⟨⟨kt, kr⟩, v, s⟩, ⟨tt, tr⟩, sd, st⟩ := o
        have q0 : wr.cell? ⟨gb, ob + i * 9, none⟩ = some (.int .i64 d) := hcl 0 (by decide)
        have q1 : wr.cell? ⟨gb, ob + i * 9 + 1, none⟩ = some (.int .i32 kt) := hcl 1 (by decide)
        have q2 : wr.cell? ⟨gb, ob + i * 9 + 2, none⟩ = some (.int .i64 kr) := hcl 2 (by decide)
        have q3 : wr.cell? ⟨gb, ob + i * 9 + 3, none⟩ = some (.int .i64 v) := hcl 3 (by decide)
        have q4 : wr.cell? ⟨gb, ob + i * 9 + 4, none⟩ = some (.int .i64 s) := hcl 4 (by decide)
        have q5 : wr.cell? ⟨gb, ob + i * 9 + 5, none⟩ = some (.int .i32 tt) := hcl 5 (by decide)
        have q6 : wr.cell? ⟨gb, ob + i * 9 + 6, none⟩ = some (.int .i64 tr) := hcl 6 (by decide)
        have q7 : wr.cell? ⟨gb, ob + i * 9 + 7, none⟩ = some (.int .u64 sd) := hcl 7 (by decide)
        have q8 : wr.cell? ⟨gb, ob + i * 9 + 8, none⟩ = some (.int .i64 st) := hcl 8 (by decide)
        obtain ⟨Y, hY⟩ : ∃ Y, wr.alloc (.cells #[.int .i64 d, .int .i32 kt, .int .i64 kr, .int .i64 v, .int .i64 s, .int .i32 tt, .int .i64 tr, .int .u64 sd, .int .i64 st] 34) = Y := ⟨_, rfl⟩
        have hbY : Below wr.heap.size wr Y := by rw [← hY]; exact (Below.refl _ _).alloc (Nat.le_refl _) _
        have hszb : b0 ≤ wr.heap.size := by have := hs.from_ _ (.inl rfl); have := hs.lt (.inl rfl); omega
        have hsY := hs.below hbY
        have hbrY : Below b0 w2 Y := hbr.trans (hbY.mono hszb)
        have hTY : Tab Y := (unhide HT2).keep (hbrY.block 0 (by omega))
        have hdb : decide ((i : Int) < 300) = true := by simp; omega
        have hi0 : (0 : Int) ≤ (i : Int) := by omega
        have hi1 : (i : Int) < 300 := by omega
        obtain ⟨i1, hi1e⟩ : ∃ i1, i + 1 = i1 := ⟨_, rfl⟩
        have hwi : IntKind.i64.wrap ((i : Int) + 1) = (i1 : Int) := by rw [wrap_i64 _ (by omega) (by omega)]; omega
        have hm1 : 300 - i1 < 300 - i := by omega
        have HX := hide (And.intro hszb (And.intro hbrY (And.intro (show i1 ≤ 300 ∧ i + 1 = i1 by omega) hlen)))
        have HY := hide hY
        by_cases hd : d = 1
        · subst hd
          have HOP := hide (erase_do hsY (kt, kr))
          clear hcl hok ho hbr hs hlen hlt hi hbY hsY hbrY hTY hszb hi1e hY
          go_wp2_with fail
          rw [unhide HY]
          refine (unhide HOP).mono ?_
          rintro e w' ⟨⟨rr, rfl⟩, ⟨L', luck', hs', hl'⟩, hb'⟩
          have HR := hide (And.intro hs' (And.intro hl' hb'))
          clear hs' hl' hb' q0 q1 q2 q3 q4 q5 q6 q7 q8
          go_wp2
          go_roundw
          case rel =>
            obtain ⟨hs', hl', hb'⟩ := unhide HR
            obtain ⟨hsz, hbr, ⟨h1, h2⟩, hlen⟩ := unhide HX
            exact ⟨i1, h1, rfl, hbr.trans hb', L', luck', hs', by omega⟩
          case measure => simpa [intOf] using hm1
        · have hdf : (d == 1) = false := by simpa using hd
          have HOP := hide (put_do hsY hTY (by omega) ((kt, kr), v, s) hok.k.1 hok.k.2 hok.v (by omega))
          clear hcl hok ho hbr hs hlen hlt hi hbY hsY hbrY hTY hszb hi1e hY
          go_wp2_with fail
          rw [unhide HY]
          refine (unhide HOP).mono ?_
          rintro e w' ⟨⟨rr, rfl⟩, ⟨L', luck', hs', hl'⟩, hb'⟩
          have HR := hide (And.intro hs' (And.intro hl' hb'))
          clear hs' hl' hb' q0 q1 q2 q3 q4 q5 q6 q7 q8
          go_wp2
          go_roundw
          case rel =>
            obtain ⟨hs', hl', hb'⟩ := unhide HR
            obtain ⟨hsz, hbr, ⟨h1, h2⟩, hlen⟩ := unhide HX
            exact ⟨i1, h1, rfl, hbr.trans hb', L', luck', hs', by omega⟩
          case measure => simpa [intOf] using hm1
      · obtain rfl : i = 300 := by omega
        have hLl : L.length ≤ 300 := by omega
        have hszb : b0 ≤ wr.heap.size := by have := hs.from_ _ (.inl rfl); have := hs.lt (.inl rfl); omega
        have kk : wr.heap[n0]? = some (.cells #[.int .i32 k.1, .int .i64 k.2] 30) := (hbr.block n0 (by omega)).trans (unhide HK2)
        have hBW : Below n0 w wr := (unhide HBW).trans (hbr.mono (by omega))
        have e0 : onL 0 L = L := onL_zero hs
        have HL0 := hide (level_any hs 0 (by decide))
        rw [e0] at HL0
        have HS := hide (And.intro hs (And.intro hBW kk))
        clear hlt hi hbr hs hlen hszb hBW kk e0
        go_wp2_with fail
        refine (unhide HL0).mono ?_
        rintro e x1 ⟨v1, rfl, hv1, hbx1⟩
        have HC1 := hide (collect_any hv1 (by simp; omega))
        have HB1 := hide hbx1
        clear hv1 hbx1
        go_wp2_with fail
        refine (unhide HC1).mono ?_
        rintro e x2 ⟨u1, rfl, hu1, hbx2⟩
        have HB2' : Hid (Below wr.heap.size wr x2) := (unhide HB1).trans (hbx2.mono (unhide HB1).size)
        obtain ⟨ao1, cap1, rfl⟩ := hu1.shape
        have HLn := hide (len_any ((unhide HS).1.below (unhide HB2')))
        have HU1 := hide hu1
        obtain ⟨c, hc⟩ : ∃ c : Nat, L.length = c := ⟨_, rfl⟩
        have hcm : (L.map (·.k)).length = c := by rw [List.length_map]; exact hc
        rw [hcm] at HU1 ⊢
        rw [hc] at HLn
        have HCC := hide (And.intro hc hcm)
        clear hu1 hbx2 hc hcm
        go_wp2_with fail
        refine (unhide HLn).mono ?_
        rintro e x3 ⟨rfl, rfl⟩
        go_wp2
        obtain ⟨wL, rfl⟩ : ∃ x, x = wr := ⟨wr, rfl⟩
        go_loopw [10, 11] (fun u t wq => ∃ nn : Nat, 1 ≤ nn ∧ nn ≤ 8 ∧ t = .int .i64 nn ∧ SeesL kC 2 wq u ((onL (nn - 1) L).map (·.k)) ∧ Below wL.heap.size wL wq) (fun _ t _ => 8 - (intOf t).toNat)
        case atStart =>
          have e0 : onL (1 - 1) L = L := onL_zero (unhide HS).1
          refine ⟨1, by omega, by omega, rfl, ?_, unhide HB2'⟩
          rw [e0]
          exact unhide HU1
        case round =>
          obtain ⟨wq, rfl⟩ : ∃ x, x = wr := ⟨wr, rfl⟩
          obtain ⟨nn, hn1, hn8, rfl, hsee, hbq⟩ := hrel
          obtain ⟨ao2, cap2, rfl⟩ := hsee.shape
          obtain ⟨c2, hc2⟩ : ∃ c : Nat, ((onL (nn - 1) L).map (·.k)).length = c := ⟨_, rfl⟩
          rw [hc2] at hsee ⊢
          by_cases hlt : nn < 8
          · have hdb : decide ((nn : Int) < 8) = true := by simp; omega
            have hlv := level_any ((unhide HS).1.below hbq) nn hlt
            have hlq : ((onL nn L).map (·.k)).length ≤ 300 := by
              rw [List.length_map]
              have := List.length_filter_le (fun n : Nd => decide (nn < n.h)) L
              show (List.filter _ L).length ≤ _
              omega
            have hlq2 : ((onL (nn - 1) L).map (·.k)).length ≤ 300 := by
              rw [List.length_map]
              have := List.length_filter_le (fun n : Nd => decide (nn - 1 < n.h)) L
              show (List.filter _ L).length ≤ _
              omega
            have HLV := hide hlv
            have HSE := hide (And.intro hsee (And.intro hbq hlq2))
            obtain ⟨n1, hn1e⟩ : ∃ x, nn + 1 = x := ⟨_, rfl⟩
            have hwn : IntKind.i64.wrap ((nn : Int) + 1) = (n1 : Int) := by rw [wrap_i64 _ (by omega) (by omega)]; omega
            have hms : 8 - n1 < 8 - nn := by omega
            have HN1 := hide (And.intro hn1e hn1)
            clear hsee hbq hlv hn1e hn8 hn1
            go_wp2_with fail
            refine (unhide HLV).mono ?_
            rintro e y1 ⟨v2, rfl, hv2, hby1⟩
            have HC2 := hide (collect_any hv2 (by omega))
            have HY1 := hide hby1
            clear hv2 hby1
            go_wp2_with fail
            refine (unhide HC2).mono ?_
            rintro e y2 ⟨u2, rfl, hu2, hby2⟩
            have HY2 : Hid (Below wq.heap.size wq y2) := (unhide HY1).trans (hby2.mono (unhide HY1).size)
            obtain ⟨ao3, cap3, gb3, ob3, rfl, _, _, hao3, hcells3⟩ := hu2.key
            obtain ⟨l3, hl3⟩ : ∃ l, (onL nn L).map (·.k) = l := ⟨_, rfl⟩
            rw [hl3] at hu2 hao3 hcells3 hlq ⊢
            obtain ⟨c3, hc3⟩ : ∃ c : Nat, l3.length = c := ⟨_, rfl⟩
            rw [hc3] at hlq hao3 ⊢
            have HCL := hide hcells3
            have HU2 := hide hu2
            have HL3 := hide (And.intro hl3 hc3)
            clear hcells3 hu2 hl3 hc3 hby2
            go_wp2
            go_loopw [64] (fun t wz => ∃ j : Nat, j ≤ c3 ∧ t = .int .i64 j ∧ Below y2.heap.size y2 wz) (fun t _ => c3 - (intOf t).toNat)
            case atStart => exact ⟨0, by omega, rfl, Below.refl _ _⟩
            case round =>
              obtain ⟨wz, rfl⟩ : ∃ x, x = wr := ⟨wr, rfl⟩
              obtain ⟨j, hj, rfl, hbz⟩ := hrel
              by_cases hjl : j < c3
              · obtain rfl := hao3 (by omega)
                obtain ⟨hl3, hc3⟩ := unhide HL3
                have hcj := unhide HCL j (by rw [hc3]; exact hjl)
                obtain ⟨y, hy⟩ : ∃ y, l3.getD j default = y := ⟨_, rfl⟩
                rw [hy] at hcj
                have hjm : y ∈ l3 := by rw [← hy]; simp only [List.getD]; rw [List.getElem?_eq_getElem (by omega)]; exact List.getElem_mem _
                have hym : y ∈ (onL (nn - 1) L).map (·.k) := by
                  rw [← hl3] at hjm
                  have := (unhide HN1).2
                  obtain ⟨m, rfl⟩ : ∃ m, nn = m + 1 := ⟨nn - 1, by omega⟩
                  exact onL_sub hjm
                have z0 : wz.cell? ⟨gb3, ob3 + j * 2, none⟩ = some (.int .i32 y.1) := (hbz.cell (p := ⟨gb3, ob3 + j * 2, none⟩) (World.block_lt_of_cell? y2 _ hcj.1)).trans hcj.1
                have z1 : wz.cell? ⟨gb3, ob3 + j * 2 + 1, none⟩ = some (.int .i64 y.2) := (hbz.cell (p := ⟨gb3, ob3 + j * 2 + 1, none⟩) (World.block_lt_of_cell? y2 _ hcj.2)).trans hcj.2
                obtain ⟨Z, hZ⟩ : ∃ Z, wz.alloc (.cells #[.int .i32 y.1, .int .i64 y.2] 30) = Z := ⟨_, rfl⟩
                have hbZ : Below wz.heap.size wz Z := by rw [← hZ]; exact (Below.refl _ _).alloc (Nat.le_refl _) _
                have hbyZ : Below y2.heap.size y2 Z := hbz.trans (hbZ.mono hbz.size)
                have hqZ : Below wq.heap.size wq Z := (unhide HY2).trans (hbyZ.mono (unhide HY2).size)
                obtain ⟨hsee, hbq, hlq2⟩ := unhide HSE
                have hct := contains_any (hsee.below kC_len hqZ) (by omega) y hym
                have HCT := hide hct
                have HZZ := hide (And.intro hbyZ hZ)
                have hdb2 : decide ((j : Int) < (c3 : Int)) = true := by simp; omega
                have hj0 : (0 : Int) ≤ (j : Int) := by omega
                have hj1 : (j : Int) < (c3 : Int) := by omega
                obtain ⟨j1, hj1e⟩ : ∃ x, j + 1 = x := ⟨_, rfl⟩
                have hwj : IntKind.i64.wrap ((j : Int) + 1) = (j1 : Int) := by rw [wrap_i64 _ (by omega) (by omega)]; omega
                have hms2 : c3 - j1 < c3 - j := by omega
                have hle2 : j1 ≤ c3 := by omega
                clear hl3 hc3 hcj hy hjm hym hbz hbZ hbyZ hqZ hsee hbq hlq2 hct hZ hj hjl hj1e
                go_wp2_with fail
                rw [(unhide HZZ).2]
                refine (unhide HCT).mono ?_
                rintro e z2 ⟨rfl, hbz2⟩
                have HZ2 : Hid (Below y2.heap.size y2 z2) := (unhide HZZ).1.trans (hbz2.mono (unhide HZZ).1.size)
                clear hbz2 z0 z1
                go_wp2
                go_roundw
                case rel => exact ⟨j1, hle2, rfl, unhide HZ2⟩
                case measure => simpa [intOf] using hms2
              · obtain rfl : j = c3 := by omega
                have hdb2 : decide ((j : Int) < (j : Int)) = false := by simp
                have HZ := hide hbz
                clear hbz hjl hj
                go_wp2
                go_roundw
                case rel =>
                  obtain ⟨hsee, hbq, _⟩ := unhide HSE
                  obtain ⟨hn1e, hn1⟩ := unhide HN1
                  obtain ⟨hl3, hc3⟩ := unhide HL3
                  have hbyz : Below wq.heap.size wq _ := (unhide HY2).trans ((unhide HZ).mono (unhide HY2).size)
                  refine ⟨n1, by omega, by omega, rfl, ?_, hbq.trans (hbyz.mono hbq.size)⟩
                  have e1 : n1 - 1 = nn := by omega
                  have := (unhide HU2).below kC_len (unhide HZ)
                  rw [hc3] at this
                  rw [e1, hl3]
                  exact this
                case measure => simpa [intOf] using hms
          · obtain rfl : nn = 8 := by omega
            have hsq := (unhide HS).1.below hbq
            have hkq : wq.heap[n0]? = some (.cells #[.int .i32 k.1, .int .i64 k.2] 30) := (hbq.block n0 (Array.getElem?_eq_some_iff.1 (unhide HS).2.2).1).trans (unhide HS).2.2
            have g0 : wq.cell? ⟨n0, 0, none⟩ = some (.int .i32 k.1) := cell_at hkq
            have g1 : wq.cell? ⟨n0, 1, none⟩ = some (.int .i64 k.2) := cell_at hkq
            have HST := hide (steps_any hsq k)
            have hbnd : stpU (lo k L) (hi k L) 8 ≤ 2 * L.length + 8 := by
              have h1 := stp_bound (lo k L) (hi k L)
              have h2 := List.length_filter_le (fun n : Nd => decide (ltK n.k k)) L
              have h3 : (lo k L).length ≤ L.length := h2
              omega
            obtain ⟨sp, hsp⟩ : ∃ z : Nat, stpU (lo k L) (hi k L) 8 = z := ⟨_, rfl⟩
            rw [hsp] at HST hbnd
            have hcL := (unhide HCC).1
            have hw1 : IntKind.i64.wrap (2 * (c : Int)) = 2 * c := wrap_i64 _ (by omega) (by omega)
            have hw2 : IntKind.i64.wrap (2 * (c : Int) + 8) = 2 * c + 8 := wrap_i64 _ (by omega) (by omega)
            have hfin : decide ((sp : Int) ≤ 2 * (c : Int) + 8) = true := by simp; omega
            have HBQ := hide hbq
            clear hsq hkq hbq hsee hbnd hsp hcL hc2 hn8 hn1 hlt
            go_wp2_with fail
            refine (unhide HST).mono ?_
            rintro e z1 ⟨rfl, hbz1⟩
            have hqz : Below wL.heap.size wL z1 := (unhide HBQ).trans (hbz1.mono (unhide HBQ).size)
            have HLn2 := hide (len_any ((unhide HS).1.below hqz))
            rw [(unhide HCC).1] at HLn2
            have HQZ := hide hqz
            clear hbz1 hqz g0 g1
            go_wp2_with fail
            refine (unhide HLn2).mono ?_
            rintro e z2 ⟨rfl, rfl⟩
            go_wp2
            go_ret
            exact ⟨rfl, (unhide HS).2.1.trans ((unhide HQZ).mono (by have := (unhide HS).2.1.size; omega))⟩

  · go_wp2
    clear hb2
    go_loopw [29] (fun t wr => ∃ i : Nat, i ≤ n ∧ t = .int .i64 i ∧ Below b0 w2 wr ∧ ∃ L luck, Sk wr b0 sb b0 L luck ∧ L.length ≤ i) (fun t _ => n - (intOf t).toNat)
    case atStart =>
      obtain ⟨h1, hb1⟩ := unhide H1
      exact ⟨0, by omega, rfl, Below.refl _ _, [], _, h1.below (unhide HB2), by simp⟩
    case round =>
      obtain ⟨i, hi, rfl, hbr, L, luck, hs, hlen⟩ := hrel
      by_cases hlt : i < n
      · obtain ⟨hcl, hok⟩ := unhide HOPS i (by omega)
        obtain rfl := haoS (by omega)
        obtain ⟨o, ho⟩ : ∃ o, ops.getD i default = o := ⟨_, rfl⟩
        rw [ho] at hok
        replace hcl : ∀ j, j < 9 → wr.cell? ⟨gb, ob + i * 9 + j, none⟩ = (oC o)[j]? := fun j hj => by
          have h0 := hcl j hj
          rw [ho] at h0
          have hlt' : gb < n0 := by
            have := List.getElem?_eq_getElem (l := oC o) (i := j) hj
            rw [this] at h0
            rw [← hn0]; exact World.block_lt_of_cell? w _ h0
          rw [← h0]
          exact ((unhide HBW).trans (hbr.mono (by omega))).cell (p := ⟨gb, ob + i * 9 + j, none⟩) hlt'
        obtain ⟨d, ⟨⟨kt, kr⟩, v, s⟩, ⟨tt, tr⟩, sd, st⟩ := o
        have q0 : wr.cell? ⟨gb, ob + i * 9, none⟩ = some (.int .i64 d) := hcl 0 (by decide)
        have q1 : wr.cell? ⟨gb, ob + i * 9 + 1, none⟩ = some (.int .i32 kt) := hcl 1 (by decide)
        have q2 : wr.cell? ⟨gb, ob + i * 9 + 2, none⟩ = some (.int .i64 kr) := hcl 2 (by decide)
        have q3 : wr.cell? ⟨gb, ob + i * 9 + 3, none⟩ = some (.int .i64 v) := hcl 3 (by decide)
        have q4 : wr.cell? ⟨gb, ob + i * 9 + 4, none⟩ = some (.int .i64 s) := hcl 4 (by decide)
        have q5 : wr.cell? ⟨gb, ob + i * 9 + 5, none⟩ = some (.int .i32 tt) := hcl 5 (by decide)
        have q6 : wr.cell? ⟨gb, ob + i * 9 + 6, none⟩ = some (.int .i64 tr) := hcl 6 (by decide)
        have q7 : wr.cell? ⟨gb, ob + i * 9 + 7, none⟩ = some (.int .u64 sd) := hcl 7 (by decide)
        have q8 : wr.cell? ⟨gb, ob + i * 9 + 8, none⟩ = some (.int .i64 st) := hcl 8 (by decide)
        obtain ⟨Y, hY⟩ : ∃ Y, wr.alloc (.cells #[.int .i64 d, .int .i32 kt, .int .i64 kr, .int .i64 v, .int .i64 s, .int .i32 tt, .int .i64 tr, .int .u64 sd, .int .i64 st] 34) = Y := ⟨_, rfl⟩
        have hbY : Below wr.heap.size wr Y := by rw [← hY]; exact (Below.refl _ _).alloc (Nat.le_refl _) _
        have hszb : b0 ≤ wr.heap.size := by have := hs.from_ _ (.inl rfl); have := hs.lt (.inl rfl); omega
        have hsY := hs.below hbY
        have hbrY : Below b0 w2 Y := hbr.trans (hbY.mono hszb)
        have hTY : Tab Y := (unhide HT2).keep (hbrY.block 0 (by omega))
        have hdb : decide ((i : Int) < (n : Int)) = true := by simp; omega
        have hi0 : (0 : Int) ≤ (i : Int) := by omega
        have hi1 : (i : Int) < (n : Int) := by omega
        obtain ⟨i1, hi1e⟩ : ∃ i1, i + 1 = i1 := ⟨_, rfl⟩
        have hwi : IntKind.i64.wrap ((i : Int) + 1) = (i1 : Int) := by rw [wrap_i64 _ (by omega) (by omega)]; omega
        have hm1 : n - i1 < n - i := by omega
        have HX := hide (And.intro hszb (And.intro hbrY (And.intro (show i1 ≤ n ∧ i + 1 = i1 by omega) hlen)))
        have HY := hide hY
        by_cases hd : d = 1
        · subst hd
          have HOP := hide (erase_do hsY (kt, kr))
          clear hcl hok ho hbr hs hlen hlt hi hbY hsY hbrY hTY hszb hi1e hY
          go_wp2_with fail
          rw [unhide HY]
          refine (unhide HOP).mono ?_
          rintro e w' ⟨⟨rr, rfl⟩, ⟨L', luck', hs', hl'⟩, hb'⟩
          have HR := hide (And.intro hs' (And.intro hl' hb'))
          clear hs' hl' hb' q0 q1 q2 q3 q4 q5 q6 q7 q8
          go_wp2
          go_roundw
          case rel =>
            obtain ⟨hs', hl', hb'⟩ := unhide HR
            obtain ⟨hsz, hbr, ⟨h1, h2⟩, hlen⟩ := unhide HX
            exact ⟨i1, h1, rfl, hbr.trans hb', L', luck', hs', by omega⟩
          case measure => simpa [intOf] using hm1
        · have hdf : (d == 1) = false := by simpa using hd
          have HOP := hide (put_do hsY hTY (by omega) ((kt, kr), v, s) hok.k.1 hok.k.2 hok.v (by omega))
          clear hcl hok ho hbr hs hlen hlt hi hbY hsY hbrY hTY hszb hi1e hY
          go_wp2_with fail
          rw [unhide HY]
          refine (unhide HOP).mono ?_
          rintro e w' ⟨⟨rr, rfl⟩, ⟨L', luck', hs', hl'⟩, hb'⟩
          have HR := hide (And.intro hs' (And.intro hl' hb'))
          clear hs' hl' hb' q0 q1 q2 q3 q4 q5 q6 q7 q8
          go_wp2
          go_roundw
          case rel =>
            obtain ⟨hs', hl', hb'⟩ := unhide HR
            obtain ⟨hsz, hbr, ⟨h1, h2⟩, hlen⟩ := unhide HX
            exact ⟨i1, h1, rfl, hbr.trans hb', L', luck', hs', by omega⟩
          case measure => simpa [intOf] using hm1
      · obtain rfl : i = n := by omega
        have hLl : L.length ≤ 300 := by omega
        have hszb : b0 ≤ wr.heap.size := by have := hs.from_ _ (.inl rfl); have := hs.lt (.inl rfl); omega
        have kk : wr.heap[n0]? = some (.cells #[.int .i32 k.1, .int .i64 k.2] 30) := (hbr.block n0 (by omega)).trans (unhide HK2)
        have hBW : Below n0 w wr := (unhide HBW).trans (hbr.mono (by omega))
        have e0 : onL 0 L = L := onL_zero hs
        have HL0 := hide (level_any hs 0 (by decide))
        rw [e0] at HL0
        have HS := hide (And.intro hs (And.intro hBW kk))
        clear hlt hi hbr hs hlen hszb hBW kk e0
        go_wp2_with fail
        refine (unhide HL0).mono ?_
        rintro e x1 ⟨v1, rfl, hv1, hbx1⟩
        have HC1 := hide (collect_any hv1 (by simp; omega))
        have HB1 := hide hbx1
        clear hv1 hbx1
        go_wp2_with fail
        refine (unhide HC1).mono ?_
        rintro e x2 ⟨u1, rfl, hu1, hbx2⟩
        have HB2' : Hid (Below wr.heap.size wr x2) := (unhide HB1).trans (hbx2.mono (unhide HB1).size)
        obtain ⟨ao1, cap1, rfl⟩ := hu1.shape
        have HLn := hide (len_any ((unhide HS).1.below (unhide HB2')))
        have HU1 := hide hu1
        obtain ⟨c, hc⟩ : ∃ c : Nat, L.length = c := ⟨_, rfl⟩
        have hcm : (L.map (·.k)).length = c := by rw [List.length_map]; exact hc
        rw [hcm] at HU1 ⊢
        rw [hc] at HLn
        have HCC := hide (And.intro hc hcm)
        clear hu1 hbx2 hc hcm
        go_wp2_with fail
        refine (unhide HLn).mono ?_
        rintro e x3 ⟨rfl, rfl⟩
        go_wp2
        obtain ⟨wL, rfl⟩ : ∃ x, x = wr := ⟨wr, rfl⟩
        go_loopw [10, 11] (fun u t wq => ∃ nn : Nat, 1 ≤ nn ∧ nn ≤ 8 ∧ t = .int .i64 nn ∧ SeesL kC 2 wq u ((onL (nn - 1) L).map (·.k)) ∧ Below wL.heap.size wL wq) (fun _ t _ => 8 - (intOf t).toNat)
        case atStart =>
          have e0 : onL (1 - 1) L = L := onL_zero (unhide HS).1
          refine ⟨1, by omega, by omega, rfl, ?_, unhide HB2'⟩
          rw [e0]
          exact unhide HU1
        case round =>
          obtain ⟨wq, rfl⟩ : ∃ x, x = wr := ⟨wr, rfl⟩
          obtain ⟨nn, hn1, hn8, rfl, hsee, hbq⟩ := hrel
          obtain ⟨ao2, cap2, rfl⟩ := hsee.shape
          obtain ⟨c2, hc2⟩ : ∃ c : Nat, ((onL (nn - 1) L).map (·.k)).length = c := ⟨_, rfl⟩
          rw [hc2] at hsee ⊢
          by_cases hlt : nn < 8
          · have hdb : decide ((nn : Int) < 8) = true := by simp; omega
            have hlv := level_any ((unhide HS).1.below hbq) nn hlt
            have hlq : ((onL nn L).map (·.k)).length ≤ 300 := by
              rw [List.length_map]
              have := List.length_filter_le (fun n : Nd => decide (nn < n.h)) L
              show (List.filter _ L).length ≤ _
              omega
            have hlq2 : ((onL (nn - 1) L).map (·.k)).length ≤ 300 := by
              rw [List.length_map]
              have := List.length_filter_le (fun n : Nd => decide (nn - 1 < n.h)) L
              show (List.filter _ L).length ≤ _
              omega
            have HLV := hide hlv
            have HSE := hide (And.intro hsee (And.intro hbq hlq2))
            obtain ⟨n1, hn1e⟩ : ∃ x, nn + 1 = x := ⟨_, rfl⟩
            have hwn : IntKind.i64.wrap ((nn : Int) + 1) = (n1 : Int) := by rw [wrap_i64 _ (by omega) (by omega)]; omega
            have hms : 8 - n1 < 8 - nn := by omega
            have HN1 := hide (And.intro hn1e hn1)
            clear hsee hbq hlv hn1e hn8 hn1
            go_wp2_with fail
            refine (unhide HLV).mono ?_
            rintro e y1 ⟨v2, rfl, hv2, hby1⟩
            have HC2 := hide (collect_any hv2 (by omega))
            have HY1 := hide hby1
            clear hv2 hby1
            go_wp2_with fail
            refine (unhide HC2).mono ?_
            rintro e y2 ⟨u2, rfl, hu2, hby2⟩
            have HY2 : Hid (Below wq.heap.size wq y2) := (unhide HY1).trans (hby2.mono (unhide HY1).size)
            obtain ⟨ao3, cap3, gb3, ob3, rfl, _, _, hao3, hcells3⟩ := hu2.key
            obtain ⟨l3, hl3⟩ : ∃ l, (onL nn L).map (·.k) = l := ⟨_, rfl⟩
            rw [hl3] at hu2 hao3 hcells3 hlq ⊢
            obtain ⟨c3, hc3⟩ : ∃ c : Nat, l3.length = c := ⟨_, rfl⟩
            rw [hc3] at hlq hao3 ⊢
            have HCL := hide hcells3
            have HU2 := hide hu2
            have HL3 := hide (And.intro hl3 hc3)
            clear hcells3 hu2 hl3 hc3 hby2
            go_wp2
            go_loopw [64] (fun t wz => ∃ j : Nat, j ≤ c3 ∧ t = .int .i64 j ∧ Below y2.heap.size y2 wz) (fun t _ => c3 - (intOf t).toNat)
            case atStart => exact ⟨0, by omega, rfl, Below.refl _ _⟩
            case round =>
              obtain ⟨wz, rfl⟩ : ∃ x, x = wr := ⟨wr, rfl⟩
              obtain ⟨j, hj, rfl, hbz⟩ := hrel
              by_cases hjl : j < c3
              · obtain rfl := hao3 (by omega)
                obtain ⟨hl3, hc3⟩ := unhide HL3
                have hcj := unhide HCL j (by rw [hc3]; exact hjl)
                obtain ⟨y, hy⟩ : ∃ y, l3.getD j default = y := ⟨_, rfl⟩
                rw [hy] at hcj
                have hjm : y ∈ l3 := by rw [← hy]; simp only [List.getD]; rw [List.getElem?_eq_getElem (by omega)]; exact List.getElem_mem _
                have hym : y ∈ (onL (nn - 1) L).map (·.k) := by
                  rw [← hl3] at hjm
                  have := (unhide HN1).2
                  obtain ⟨m, rfl⟩ : ∃ m, nn = m + 1 := ⟨nn - 1, by omega⟩
                  exact onL_sub hjm
                have z0 : wz.cell? ⟨gb3, ob3 + j * 2, none⟩ = some (.int .i32 y.1) := (hbz.cell (p := ⟨gb3, ob3 + j * 2, none⟩) (World.block_lt_of_cell? y2 _ hcj.1)).trans hcj.1
                have z1 : wz.cell? ⟨gb3, ob3 + j * 2 + 1, none⟩ = some (.int .i64 y.2) := (hbz.cell (p := ⟨gb3, ob3 + j * 2 + 1, none⟩) (World.block_lt_of_cell? y2 _ hcj.2)).trans hcj.2
                obtain ⟨Z, hZ⟩ : ∃ Z, wz.alloc (.cells #[.int .i32 y.1, .int .i64 y.2] 30) = Z := ⟨_, rfl⟩
                have hbZ : Below wz.heap.size wz Z := by rw [← hZ]; exact (Below.refl _ _).alloc (Nat.le_refl _) _
                have hbyZ : Below y2.heap.size y2 Z := hbz.trans (hbZ.mono hbz.size)
                have hqZ : Below wq.heap.size wq Z := (unhide HY2).trans (hbyZ.mono (unhide HY2).size)
                obtain ⟨hsee, hbq, hlq2⟩ := unhide HSE
                have hct := contains_any (hsee.below kC_len hqZ) (by omega) y hym
                have HCT := hide hct
                have HZZ := hide (And.intro hbyZ hZ)
                have hdb2 : decide ((j : Int) < (c3 : Int)) = true := by simp; omega
                have hj0 : (0 : Int) ≤ (j : Int) := by omega
                have hj1 : (j : Int) < (c3 : Int) := by omega
                obtain ⟨j1, hj1e⟩ : ∃ x, j + 1 = x := ⟨_, rfl⟩
                have hwj : IntKind.i64.wrap ((j : Int) + 1) = (j1 : Int) := by rw [wrap_i64 _ (by omega) (by omega)]; omega
                have hms2 : c3 - j1 < c3 - j := by omega
                have hle2 : j1 ≤ c3 := by omega
                clear hl3 hc3 hcj hy hjm hym hbz hbZ hbyZ hqZ hsee hbq hlq2 hct hZ hj hjl hj1e
                go_wp2_with fail
                rw [(unhide HZZ).2]
                refine (unhide HCT).mono ?_
                rintro e z2 ⟨rfl, hbz2⟩
                have HZ2 : Hid (Below y2.heap.size y2 z2) := (unhide HZZ).1.trans (hbz2.mono (unhide HZZ).1.size)
                clear hbz2 z0 z1
                go_wp2
                go_roundw
                case rel => exact ⟨j1, hle2, rfl, unhide HZ2⟩
                case measure => simpa [intOf] using hms2
              · obtain rfl : j = c3 := by omega
                have hdb2 : decide ((j : Int) < (j : Int)) = false := by simp
                have HZ := hide hbz
                clear hbz hjl hj
                go_wp2
                go_roundw
                case rel =>
                  obtain ⟨hsee, hbq, _⟩ := unhide HSE
                  obtain ⟨hn1e, hn1⟩ := unhide HN1
                  obtain ⟨hl3, hc3⟩ := unhide HL3
                  have hbyz : Below wq.heap.size wq _ := (unhide HY2).trans ((unhide HZ).mono (unhide HY2).size)
                  refine ⟨n1, by omega, by omega, rfl, ?_, hbq.trans (hbyz.mono hbq.size)⟩
                  have e1 : n1 - 1 = nn := by omega
                  have := (unhide HU2).below kC_len (unhide HZ)
                  rw [hc3] at this
                  rw [e1, hl3]
                  exact this
                case measure => simpa [intOf] using hms
          · obtain rfl : nn = 8 := by omega
            have hsq := (unhide HS).1.below hbq
            have hkq : wq.heap[n0]? = some (.cells #[.int .i32 k.1, .int .i64 k.2] 30) := (hbq.block n0 (Array.getElem?_eq_some_iff.1 (unhide HS).2.2).1).trans (unhide HS).2.2
            have g0 : wq.cell? ⟨n0, 0, none⟩ = some (.int .i32 k.1) := cell_at hkq
            have g1 : wq.cell? ⟨n0, 1, none⟩ = some (.int .i64 k.2) := cell_at hkq
            have HST := hide (steps_any hsq k)
            have hbnd : stpU (lo k L) (hi k L) 8 ≤ 2 * L.length + 8 := by
              have h1 := stp_bound (lo k L) (hi k L)
              have h2 := List.length_filter_le (fun n : Nd => decide (ltK n.k k)) L
              have h3 : (lo k L).length ≤ L.length := h2
              omega
            obtain ⟨sp, hsp⟩ : ∃ z : Nat, stpU (lo k L) (hi k L) 8 = z := ⟨_, rfl⟩
            rw [hsp] at HST hbnd
            have hcL := (unhide HCC).1
            have hw1 : IntKind.i64.wrap (2 * (c : Int)) = 2 * c := wrap_i64 _ (by omega) (by omega)
            have hw2 : IntKind.i64.wrap (2 * (c : Int) + 8) = 2 * c + 8 := wrap_i64 _ (by omega) (by omega)
            have hfin : decide ((sp : Int) ≤ 2 * (c : Int) + 8) = true := by simp; omega
            have HBQ := hide hbq
            clear hsq hkq hbq hsee hbnd hsp hcL hc2 hn8 hn1 hlt
            go_wp2_with fail
            refine (unhide HST).mono ?_
            rintro e z1 ⟨rfl, hbz1⟩
            have hqz : Below wL.heap.size wL z1 := (unhide HBQ).trans (hbz1.mono (unhide HBQ).size)
            have HLn2 := hide (len_any ((unhide HS).1.below hqz))
            rw [(unhide HCC).1] at HLn2
            have HQZ := hide hqz
            clear hbz1 hqz g0 g1
            go_wp2_with fail
            refine (unhide HLn2).mono ?_
            rintro e z2 ⟨rfl, rfl⟩
            go_wp2
            go_ret
            exact ⟨rfl, (unhide HS).2.1.trans ((unhide HQZ).mono (by have := (unhide HS).2.1.size; omega))⟩

end Go.Proofs.YtalecnfflcjkmaaDoor
