/- SkipMap's walk. -/
import Derived.Test.YtalecnfflcjkmaaDoorP2
import Derived.Test.YtalecnfflcjkmaaDoorRV
namespace Go.Proofs.YtalecnfflcjkmaaDoor
open Go.RowKit Go.Shelf
attribute [local go_sem] Oper.semAt_some
set_option maxRecDepth 100000

set_option maxHeartbeats 8000000 in
theorem map_walk (seed : Int) (hseed : 0 ≤ seed ∧ seed < 18446744073709551616) (ao : Option Addr) (n cap gb ob : Nat) (ops : List Opn) (w : World) (hT : Tab w) (hw : 0 < w.heap.size) (hn : n ≤ cap) (hcap : n ≤ 140737488351232) (hao : ao = none → cap = 0) (haoS : 0 < n → ao = some ⟨gb, ob, none⟩)
    (hops : ∀ t, t < n → (∀ j, j < 9 → w.cell? ⟨gb, ob + t * 9 + j, none⟩ = (oC (ops.getD t default))[j]?) ∧ OkO (ops.getD t default)) :
    Calls Tryd.prog 5 #[.int .u64 seed, .slice ao n cap] w fun e w' => e = .returned (.bool true) ∧ Below w.heap.size w w' := by
  obtain ⟨b0, hb0⟩ : ∃ x, w.heap.size = x := ⟨_, rfl⟩
  have HN := hide (new_any w seed b0 (by omega) hseed)
  obtain ⟨sb, hsb⟩ : ∃ x, b0 + 1 = x := ⟨_, rfl⟩
  rw [hb0, hsb] at HN
  have HT := hide hT
  have HOPS := hide hops
  have hb00 : 0 < b0 := by omega
  rw [hb0]
  clear hT hseed hw hops
  go_enter Tryd.func5, Tryd.ntmps5
  go_wp2_with fail
  refine (unhide HN).mono ?_
  rintro e w1 ⟨rfl, h1, hb1⟩
  have hT1 : Tab w1 := (unhide HT).keep (hb1.block 0 (by omega))
  have HBE := hide (begun_any w1 hT1 (by have := h1.lt (.inl rfl); omega))
  have H1 := hide (And.intro h1 hb1)
  have HT1 := hide hT1
  clear h1 hb1 hT1
  go_wp2_with fail
  refine (unhide HBE).mono ?_
  rintro e w2 ⟨rfl, hb2⟩
  obtain ⟨h1, hb1⟩ := unhide H1
  have hs1 : b0 < w1.heap.size := h1.lt (.inr (.inl rfl))
  obtain ⟨mb, hmb⟩ : ∃ x, w2.heap.size = x := ⟨_, rfl⟩
  obtain ⟨w3, hw3⟩ : ∃ W, w2.alloc (.map #[] 0) = W := ⟨_, rfl⟩
  have hmk : (Instr.makeMap 48 none).run Tryd.prog w2 = .ok (.map (some mb)) w3 := by rw [← hw3, ← hmb]; rfl
  have hb3 : Below w2.heap.size w2 w3 := by rw [← hw3]; exact (Below.refl _ _).alloc (Nat.le_refl _) _
  have hb13 : Below w1.heap.size w1 w3 := hb2.trans (hb3.mono hb2.size)
  have HMS : Hid (MS w3 b0 sb mb [] seed) := ⟨h1.below hb13, ⟨#[], 0, by rw [← hw3, ← hmb]; exact World.alloc_heap_new w2 _, [], rfl, List.Perm.refl _⟩, by rw [← hmb]; have := hb2.size; omega⟩
  have HBW : Hid (Below b0 w w3) := hb1.trans (hb13.mono (by omega))
  have HT3 : Hid (Tab w3) := (unhide HT1).keep (hb13.block 0 (by omega))
  have HW3 := hide hw3
  clear h1 hb1 hb2 hb3 hb13 hs1 hw3
  by_cases hm : 300 < n
  · go_wp2_with (first | rw [unhide HW3] | rw [hmb])
    go_loopw [33] (fun t wr => ∃ i : Nat, i ≤ 300 ∧ t = .int .i64 i ∧ Below b0 w3 wr ∧ ∃ L luck, MS wr b0 sb mb L luck ∧ L.length ≤ i) (fun t _ => 300 - (intOf t).toNat)
    case atStart => exact ⟨0, by omega, rfl, Below.refl _ _, [], seed, unhide HMS, by simp⟩
    case round =>
      obtain ⟨i, hi, rfl, hbr, L, luck, hs, hlen⟩ := hrel
      by_cases hlt : i < 300
      · obtain ⟨hcl, hok⟩ := unhide HOPS i (by omega)
        obtain rfl := haoS (by omega)
        obtain ⟨o, ho⟩ : ∃ o, ops.getD i default = o := ⟨_, rfl⟩
        rw [ho] at hok
        replace hcl : ∀ j, j < 9 → wr.cell? ⟨gb, ob + i * 9 + j, none⟩ = (oC o)[j]? := fun j hj => by
          have h0 := hcl j hj
          rw [ho] at h0
          have hlt' : gb < b0 := by
            have := List.getElem?_eq_getElem (l := oC o) (i := j) hj
            rw [this] at h0
            rw [← hb0]; exact World.block_lt_of_cell? w _ h0
          rw [← h0]
          exact ((unhide HBW).trans hbr).cell (p := ⟨gb, ob + i * 9 + j, none⟩) hlt'
        obtain ⟨d, ⟨⟨kt, kr⟩, v, s⟩, ⟨tt, tr⟩, sd, st⟩ := o
        have q0 : wr.cell? ⟨gb, ob + i * 9, none⟩ = some (.int .i64 d) := hcl 0 (by decide)
        have q1 : wr.cell? ⟨gb, ob + i * 9 + 1, none⟩ = some (.int .i32 kt) := hcl 1 (by decide)
        have q2 : wr.cell? ⟨gb, ob + i * 9 + 2, none⟩ = some (.int .i64 kr) := hcl 2 (by decide)
        have q3 : wr.cell? ⟨gb, ob + i * 9 + 3, none⟩ = some (.int .i64 v) := hcl 3 (by decide)
        have q4 : wr.cell? ⟨gb, ob + i * 9 + 4, none⟩ = some (.int .i64 s) := hcl 4 (by decide)
        have q5 : wr.cell? ⟨gb, ob + i * 9 + 5, none⟩ = some (.int .i32 tt) := hcl 5 (by decide)
        have q6 : wr.cell? ⟨gb, ob + i * 9 + 6, none⟩ = some (.int .i64 tr) := hcl 6 (by decide)
        have q7 : wr.cell? ⟨gb, ob + i * 9 + 7, none⟩ = some (.int .u64 sd) := hcl 7 (by decide)
        have q8 : wr.cell? ⟨gb, ob + i * 9 + 8, none⟩ = some (.int .i64 st) := hcl 8 (by decide)
        obtain ⟨bo, hbo⟩ : ∃ x, wr.heap.size = x := ⟨_, rfl⟩
        obtain ⟨Y, hY⟩ : ∃ Y, wr.alloc (.cells #[.int .i64 d, .int .i32 kt, .int .i64 kr, .int .i64 v, .int .i64 s, .int .i32 tt, .int .i64 tr, .int .u64 sd, .int .i64 st] 34) = Y := ⟨_, rfl⟩
        have hbY : Below wr.heap.size wr Y := by rw [← hY]; exact (Below.refl _ _).alloc (Nat.le_refl _) _
        have koY : Y.heap[bo]? = some (.cells #[.int .i64 d, .int .i32 kt, .int .i64 kr, .int .i64 v, .int .i64 s, .int .i32 tt, .int .i64 tr, .int .u64 sd, .int .i64 st] 34) := by rw [← hY, ← hbo]; exact heap_new1 _ _
        have c0 : Y.cell? ⟨bo, 0, none⟩ = some (.int .i64 d) := cell_at koY
        have c1 : Y.cell? ⟨bo, 1, none⟩ = some (.int .i32 kt) := cell_at koY
        have c2 : Y.cell? ⟨bo, 2, none⟩ = some (.int .i64 kr) := cell_at koY
        have c3 : Y.cell? ⟨bo, 3, none⟩ = some (.int .i64 v) := cell_at koY
        have c4 : Y.cell? ⟨bo, 4, none⟩ = some (.int .i64 s) := cell_at koY
        have c5 : Y.cell? ⟨bo, 5, none⟩ = some (.int .i32 tt) := cell_at koY
        have c6 : Y.cell? ⟨bo, 6, none⟩ = some (.int .i64 tr) := cell_at koY
        have c7 : Y.cell? ⟨bo, 7, none⟩ = some (.int .u64 sd) := cell_at koY
        have c8 : Y.cell? ⟨bo, 8, none⟩ = some (.int .i64 st) := cell_at koY
        have hszb := hs.size
        have hmsY := hs.below hbY
        have hbrY : Below b0 w3 Y := hbr.trans (hbY.mono (by omega))
        have HTY : Hid (Tab Y) := (unhide HT3).keep (hbrY.block 0 (by omega))
        have HBO : Hid (¬ Bm sb b0 mb L bo) := fun c => by have := hs.lt c; omega
        have HIK : Hid (InK (kt, kr)) := ⟨hok.k.1, hok.k.2⟩
        have HMSY := hide hmsY
        have HBY := hide hbrY
        have HSZ : Hid (b0 ≤ Y.heap.size) := by have := hbY.size; show b0 ≤ Y.heap.size; omega
        have hdb : decide ((i : Int) < 300) = true := by simp; omega
        have hi0 : (0 : Int) ≤ (i : Int) := by omega
        have hi1 : (i : Int) < 300 := by omega
        obtain ⟨i1, hi1e⟩ : ∃ i1, i + 1 = i1 := ⟨_, rfl⟩
        have hwi : IntKind.i64.wrap ((i : Int) + 1) = (i1 : Int) := by rw [wrap_i64 _ (by omega) (by omega)]; omega
        have hm1 : 300 - i1 < 300 - i := by omega
        have HX : Hid (i1 ≤ 300 ∧ i + 1 = i1 ∧ (L.length ≤ i ∧ i < 300)) := ⟨by omega, by omega, by omega, by omega⟩
        have HY := hide hY
        clear hcl ho hbr hs hlen hlt hi hbY hbrY hszb hi1e hY
        try rw [hbo]
        by_cases hd : d = 1
        · have hdt : (d == 1) = true := by simpa using hd
          clear hd
          rcases ms_cases hmsY.sk (kt, kr) with ⟨n, r, hL, hR, hk⟩ | ⟨hR, hno⟩
          · clear hok
            obtain ⟨np, nk, nv, ns, nh⟩ := n
            have hk' : nk = (kt, kr) := hk
            subst hk'
            have hlook : (Instr.lookup 48 (.map (some mb)) (.agg #[.int .i32 kt, .int .i64 kr]) true).run Tryd.prog Y = .ok (.tuple #[.agg #[.int .i32 kt, .int .i64 kr, .int .i64 nv, .int .i64 ns], .bool true]) Y := look_has hmsY.map hmsY.sk.rise hmsY.sk.ok (n := ⟨np, (kt, kr), nv, ns, nh⟩) (by rw [hL]; simp)
            obtain ⟨Y2, hY2⟩ : ∃ Z, Y.alloc (.cells #[.int .i32 kt, .int .i64 kr, .int .i64 nv, .int .i64 ns] 32) = Z := ⟨_, rfl⟩
            have hbY2 : Below Y.heap.size Y Y2 := by rw [← hY2]; exact (Below.refl _ _).alloc (Nat.le_refl _) _
            have koY2 : Y2.heap[bo]? = some (.cells #[.int .i64 d, .int .i32 kt, .int .i64 kr, .int .i64 v, .int .i64 s, .int .i32 tt, .int .i64 tr, .int .u64 sd, .int .i64 st] 34) := (hbY2.block bo (Array.getElem?_eq_some_iff.1 koY).1).trans koY
            have e1 : ∀ o : Obj, (Y.alloc o).cell? ⟨bo, 1, none⟩ = some (.int .i32 kt) := fun _ => cell_old c1
            have e2 : ∀ o : Obj, (Y.alloc o).cell? ⟨bo, 2, none⟩ = some (.int .i64 kr) := fun _ => cell_old c2
            have HOP := hide (ms_erase_has (hmsY.below hbY2) (kt, kr) hL hR rfl)
            have HK2 := hide (And.intro koY2 hbY2)
            have HY2 := hide hY2
            clear koY2 hbY2 hY2 hmsY koY hR hL hk
            go_wp2_with (rw [unhide HY])
            rw [unhide HY2]
            refine (unhide HOP).mono ?_
            rintro e w' ⟨rfl, hU, y, L', luck', hdel, hms', hl', hUy⟩
            obtain ⟨koY2, hbY2⟩ := unhide HK2
            have ko' : w'.heap[bo]? = some (.cells #[.int .i64 d, .int .i32 kt, .int .i64 kr, .int .i64 v, .int .i64 s, .int .i32 tt, .int .i64 tr, .int .u64 sd, .int .i64 st] 34) := (hU.block bo (Array.getElem?_eq_some_iff.1 koY2).1 (fun c => unhide HBO (.inl c))).trans koY2
            have g1 : w'.cell? ⟨bo, 1, none⟩ = some (.int .i32 kt) := cell_at ko'
            have g2 : w'.cell? ⟨bo, 2, none⟩ = some (.int .i64 kr) := cell_at ko'
            have hdel0 := hdel 0
            have HREL : Hid (Below b0 w3 y ∧ MS y b0 sb mb L' luck') := ⟨(unhide HBY).trans ((hbY2.mono (by have := unhide HSZ; omega)).trans (((unhide HMSY).below hbY2).frame hUy)), hms'⟩
            have HLL := hide hl'
            clear hU hms' hl' hUy koY2 hbY2 ko' e1 e2 q0 q1 q2 q3 q4 q5 q6 q7 q8 c0 c1 c2 c3 c4 c5 c6 c7 c8 hlook
            go_wp2
            go_roundw
            case rel =>
              obtain ⟨hi1, hi2, hlen⟩ := unhide HX
              have hbnd := unhide HLL
              exact ⟨i1, by omega, rfl, (unhide HREL).1, L', luck', (unhide HREL).2, by omega⟩
            case measure => simpa [intOf] using hm1

          · clear hok
            have hlook : (Instr.lookup 48 (.map (some mb)) (.agg #[.int .i32 kt, .int .i64 kr]) true).run Tryd.prog Y = .ok (.tuple #[.agg #[.int .i32 0, .int .i64 0, .int .i64 0, .int .i64 0], .bool false]) Y := look_no hmsY.map hmsY.sk.ok (k := (kt, kr)) (unhide HIK) hno
            obtain ⟨Y2, hY2⟩ : ∃ Z, Y.alloc (.cells #[.int .i32 0, .int .i64 0, .int .i64 0, .int .i64 0] 32) = Z := ⟨_, rfl⟩
            have hbY2 : Below Y.heap.size Y Y2 := by rw [← hY2]; exact (Below.refl _ _).alloc (Nat.le_refl _) _
            have koY2 : Y2.heap[bo]? = some (.cells #[.int .i64 d, .int .i32 kt, .int .i64 kr, .int .i64 v, .int .i64 s, .int .i32 tt, .int .i64 tr, .int .u64 sd, .int .i64 st] 34) := (hbY2.block bo (Array.getElem?_eq_some_iff.1 koY).1).trans koY
            have e1 : ∀ o : Obj, (Y.alloc o).cell? ⟨bo, 1, none⟩ = some (.int .i32 kt) := fun _ => cell_old c1
            have e2 : ∀ o : Obj, (Y.alloc o).cell? ⟨bo, 2, none⟩ = some (.int .i64 kr) := fun _ => cell_old c2
            have HOP := hide (ms_erase_no (hmsY.below hbY2) (kt, kr) (unhide HIK) hR hno)
            have HK2 := hide (And.intro koY2 hbY2)
            have HY2 := hide hY2
            clear koY2 hbY2 hY2 hmsY koY hR hno
            go_wp2_with (rw [unhide HY])
            rw [unhide HY2]
            refine (unhide HOP).mono ?_
            rintro e w' ⟨rfl, hU, y, L', luck', hdel, hms', hl', hUy⟩
            obtain ⟨koY2, hbY2⟩ := unhide HK2
            have ko' : w'.heap[bo]? = some (.cells #[.int .i64 d, .int .i32 kt, .int .i64 kr, .int .i64 v, .int .i64 s, .int .i32 tt, .int .i64 tr, .int .u64 sd, .int .i64 st] 34) := (hU.block bo (Array.getElem?_eq_some_iff.1 koY2).1 (fun c => unhide HBO (.inl c))).trans koY2
            have g1 : w'.cell? ⟨bo, 1, none⟩ = some (.int .i32 kt) := cell_at ko'
            have g2 : w'.cell? ⟨bo, 2, none⟩ = some (.int .i64 kr) := cell_at ko'
            have hdel0 := hdel 0
            have HREL : Hid (Below b0 w3 y ∧ MS y b0 sb mb L' luck') := ⟨(unhide HBY).trans ((hbY2.mono (by have := unhide HSZ; omega)).trans (((unhide HMSY).below hbY2).frame hUy)), hms'⟩
            have HLL := hide hl'
            clear hU hms' hl' hUy koY2 hbY2 ko' e1 e2 q0 q1 q2 q3 q4 q5 q6 q7 q8 c0 c1 c2 c3 c4 c5 c6 c7 c8 hlook
            go_wp2
            go_roundw
            case rel =>
              obtain ⟨hi1, hi2, hlen⟩ := unhide HX
              have hbnd := unhide HLL
              exact ⟨i1, by omega, rfl, (unhide HREL).1, L', luck', (unhide HREL).2, by omega⟩
            case measure => simpa [intOf] using hm1

        · have hdf : (d == 1) = false := by simpa using hd
          clear hd
          by_cases hs0 : 0 ≤ s
          · by_cases hs1 : s ≤ 1099511627776
            · have hge : decide (0 ≤ s) = true := decide_eq_true hs0
              have hge' : decide (s ≥ 0) = true := hge
              have hle : decide (s ≤ 1099511627776) = true := decide_eq_true hs1
              have HOP := hide (ms_put hmsY (unhide HTY) hb00 ((kt, kr), v, s) (unhide HIK) hok.v hs0 hs1 (by have := (unhide HX).2.2; omega))
              have HK2 := hide koY
              clear hmsY koY hs0 hs1 hok
              go_wp2_with (rw [unhide HY])
              refine (unhide HOP).mono ?_
              rintro e w' ⟨rfl, hU, y, L', luck', hupd, hms', hl', hUy⟩
              have ko' : w'.heap[bo]? = some (.cells #[.int .i64 d, .int .i32 kt, .int .i64 kr, .int .i64 v, .int .i64 s, .int .i32 tt, .int .i64 tr, .int .u64 sd, .int .i64 st] 34) := (hU.block bo (Array.getElem?_eq_some_iff.1 (unhide HK2)).1 (fun c => unhide HBO (.inl c))).trans (unhide HK2)
              have g1 : w'.cell? ⟨bo, 1, none⟩ = some (.int .i32 kt) := cell_at ko'
              have g2 : w'.cell? ⟨bo, 2, none⟩ = some (.int .i64 kr) := cell_at ko'
              have g3 : w'.cell? ⟨bo, 3, none⟩ = some (.int .i64 v) := cell_at ko'
              have g4 : w'.cell? ⟨bo, 4, none⟩ = some (.int .i64 s) := cell_at ko'
              have HMZ := hide hms'
              have HKZ : Hid (y.heap[bo]? = some (.cells #[.int .i64 d, .int .i32 kt, .int .i64 kr, .int .i64 v, .int .i64 s, .int .i32 tt, .int .i64 tr, .int .u64 sd, .int .i64 st] 34)) := (hUy.block bo (Array.getElem?_eq_some_iff.1 (unhide HK2)).1 (unhide HBO)).trans (unhide HK2)
              have HBZ : Hid (Below b0 w3 y) := (unhide HBY).trans ((unhide HMSY).frame hUy)
              have HLL := hide hl'
              clear hU hms' hl' hUy ko' q0 q1 q2 q3 q4 q5 q6 q7 q8 c0 c1 c2 c3 c4 c5 c6 c7 c8
              have HZ := hide (And.intro (unhide HMZ) (And.intro (unhide HKZ) (unhide HBZ)))
              have hkz0 := unhide HKZ
              have zc1 : y.cell? ⟨bo, 1, none⟩ = some (.int .i32 kt) := cell_at hkz0
              have zc2 : y.cell? ⟨bo, 2, none⟩ = some (.int .i64 kr) := cell_at hkz0
              clear hkz0
              have hms := unhide HMZ
              rcases ms_cases hms.sk (kt, kr) with ⟨n, r, hL, hR, hk⟩ | ⟨hR, hno⟩
              · have hL0 := trivial
                obtain ⟨np, nk, nv, ns, nh⟩ := n
                have hk' : nk = (kt, kr) := hk
                subst hk'
                have HGET := hide (get_has hms.sk (kt, kr) rfl hR rfl)
                clear hk hR hL0
                go_wp2_with fail
                refine (unhide HGET).mono ?_
                rintro e x1 ⟨rfl, hbx⟩
                obtain ⟨hms, hkz, hbz⟩ := unhide HZ
                have hms : MS y b0 sb mb L' luck' := hms
                have hb1' : Below x1.heap.size x1 (x1.alloc (.cells #[.int .i32 kt, .int .i64 kr, .int .i64 nv, .int .i64 ns] 32)) := (Below.refl _ _).alloc (Nat.le_refl _) _
                have hbZ1 : Below y.heap.size y (x1.alloc (.cells #[.int .i32 kt, .int .i64 kr, .int .i64 nv, .int .i64 ns] 32)) := hbx.trans (hb1'.mono hbx.size)
                have hbZ2 : Below y.heap.size y ((x1.alloc (.cells #[.int .i32 kt, .int .i64 kr, .int .i64 nv, .int .i64 ns] 32)).alloc (.cells #[.int .i32 kt, .int .i64 kr, .int .i64 nv, .int .i64 ns] 32)) := hbZ1.alloc hbZ1.size _
                have hkb : bo < y.heap.size := (Array.getElem?_eq_some_iff.1 hkz).1
                have hox : x1.heap[bo]? = some (.cells #[.int .i64 d, .int .i32 kt, .int .i64 kr, .int .i64 v, .int .i64 s, .int .i32 tt, .int .i64 tr, .int .u64 sd, .int .i64 st] 34) := (hbx.block bo hkb).trans hkz
                have o1 : x1.cell? ⟨bo, 1, none⟩ = some (.int .i32 kt) := cell_at hox
                have o2 : x1.cell? ⟨bo, 2, none⟩ = some (.int .i64 kr) := cell_at hox
                have oa1 : ∀ o : Obj, (x1.alloc o).cell? ⟨bo, 1, none⟩ = some (.int .i32 kt) := fun _ => cell_old o1
                have oa2 : ∀ o : Obj, (x1.alloc o).cell? ⟨bo, 2, none⟩ = some (.int .i64 kr) := fun _ => cell_old o2
                have hlook : (Instr.lookup 48 (.map (some mb)) (.agg #[.int .i32 kt, .int .i64 kr]) true).run Tryd.prog (x1.alloc (.cells #[.int .i32 kt, .int .i64 kr, .int .i64 nv, .int .i64 ns] 32)) = .ok (.tuple #[.agg #[.int .i32 kt, .int .i64 kr, .int .i64 nv, .int .i64 ns], .bool true]) (x1.alloc (.cells #[.int .i32 kt, .int .i64 kr, .int .i64 nv, .int .i64 ns] 32)) := look_has (hms.map.below hbZ1) hms.sk.rise hms.sk.ok (n := ⟨np, (kt, kr), nv, ns, nh⟩) (by rw [hL]; simp)
                have hneq : ∀ w, (binOp .neq 32 (.agg #[.int .i32 kt, .int .i64 kr, .int .i64 nv, .int .i64 ns]) (.agg #[.int .i32 kt, .int .i64 kr, .int .i64 nv, .int .i64 ns])).run Tryd.prog w = .ok (.bool false) w := fun w => by rw [neq_cell]; simp
                have HREL : Hid (Below b0 w3 ((x1.alloc (.cells #[.int .i32 kt, .int .i64 kr, .int .i64 nv, .int .i64 ns] 32)).alloc (.cells #[.int .i32 kt, .int .i64 kr, .int .i64 nv, .int .i64 ns] 32)) ∧ MS ((x1.alloc (.cells #[.int .i32 kt, .int .i64 kr, .int .i64 nv, .int .i64 ns] 32)).alloc (.cells #[.int .i32 kt, .int .i64 kr, .int .i64 nv, .int .i64 ns] 32)) b0 sb mb L' luck') := ⟨hbz.trans (hbZ2.mono (by have := hms.size; omega)), hms.below hbZ2⟩
                clear hbx hms hkz hbz hb1' hbZ1 hbZ2 hkb hox o1 o2 hL zc1 zc2
                go_wp2
                go_roundw
                case rel =>
                  obtain ⟨hi1, hi2, hlen⟩ := unhide HX
                  have hbnd := unhide HLL
                  exact ⟨i1, by omega, rfl, (unhide HREL).1, L', luck', (unhide HREL).2, by omega⟩
                case measure => simpa [intOf] using hm1

              · have hL0 := trivial
                have HGET := hide (get_no hms.sk (kt, kr) rfl rfl hR)
                clear hR hL0
                go_wp2_with fail
                refine (unhide HGET).mono ?_
                rintro e x1 ⟨rfl, hbx⟩
                obtain ⟨hms, hkz, hbz⟩ := unhide HZ
                have hms : MS y b0 sb mb L' luck' := hms
                have hb1' : Below x1.heap.size x1 (x1.alloc (.cells #[.int .i32 0, .int .i64 0, .int .i64 0, .int .i64 0] 32)) := (Below.refl _ _).alloc (Nat.le_refl _) _
                have hbZ1 : Below y.heap.size y (x1.alloc (.cells #[.int .i32 0, .int .i64 0, .int .i64 0, .int .i64 0] 32)) := hbx.trans (hb1'.mono hbx.size)
                have hbZ2 : Below y.heap.size y ((x1.alloc (.cells #[.int .i32 0, .int .i64 0, .int .i64 0, .int .i64 0] 32)).alloc (.cells #[.int .i32 0, .int .i64 0, .int .i64 0, .int .i64 0] 32)) := hbZ1.alloc hbZ1.size _
                have hkb : bo < y.heap.size := (Array.getElem?_eq_some_iff.1 hkz).1
                have hox : x1.heap[bo]? = some (.cells #[.int .i64 d, .int .i32 kt, .int .i64 kr, .int .i64 v, .int .i64 s, .int .i32 tt, .int .i64 tr, .int .u64 sd, .int .i64 st] 34) := (hbx.block bo hkb).trans hkz
                have o1 : x1.cell? ⟨bo, 1, none⟩ = some (.int .i32 kt) := cell_at hox
                have o2 : x1.cell? ⟨bo, 2, none⟩ = some (.int .i64 kr) := cell_at hox
                have oa1 : ∀ o : Obj, (x1.alloc o).cell? ⟨bo, 1, none⟩ = some (.int .i32 kt) := fun _ => cell_old o1
                have oa2 : ∀ o : Obj, (x1.alloc o).cell? ⟨bo, 2, none⟩ = some (.int .i64 kr) := fun _ => cell_old o2
                have hlook : (Instr.lookup 48 (.map (some mb)) (.agg #[.int .i32 kt, .int .i64 kr]) true).run Tryd.prog (x1.alloc (.cells #[.int .i32 0, .int .i64 0, .int .i64 0, .int .i64 0] 32)) = .ok (.tuple #[.agg #[.int .i32 0, .int .i64 0, .int .i64 0, .int .i64 0], .bool false]) (x1.alloc (.cells #[.int .i32 0, .int .i64 0, .int .i64 0, .int .i64 0] 32)) := look_no (hms.map.below hbZ1) hms.sk.ok (k := (kt, kr)) (unhide HIK) hno
                have hneq : ∀ w, (binOp .neq 32 (.agg #[.int .i32 0, .int .i64 0, .int .i64 0, .int .i64 0]) (.agg #[.int .i32 0, .int .i64 0, .int .i64 0, .int .i64 0])).run Tryd.prog w = .ok (.bool false) w := fun w => by rw [neq_cell]; simp
                have HREL : Hid (Below b0 w3 ((x1.alloc (.cells #[.int .i32 0, .int .i64 0, .int .i64 0, .int .i64 0] 32)).alloc (.cells #[.int .i32 0, .int .i64 0, .int .i64 0, .int .i64 0] 32)) ∧ MS ((x1.alloc (.cells #[.int .i32 0, .int .i64 0, .int .i64 0, .int .i64 0] 32)).alloc (.cells #[.int .i32 0, .int .i64 0, .int .i64 0, .int .i64 0] 32)) b0 sb mb L' luck') := ⟨hbz.trans (hbZ2.mono (by have := hms.size; omega)), hms.below hbZ2⟩
                clear hbx hms hkz hbz hb1' hbZ1 hbZ2 hkb hox o1 o2 hno zc1 zc2
                go_wp2
                go_roundw
                case rel =>
                  obtain ⟨hi1, hi2, hlen⟩ := unhide HX
                  have hbnd := unhide HLL
                  exact ⟨i1, by omega, rfl, (unhide HREL).1, L', luck', (unhide HREL).2, by omega⟩
                case measure => simpa [intOf] using hm1

            · have hge : decide (0 ≤ s) = true := decide_eq_true hs0
              have hge' : decide (s ≥ 0) = true := hge
              have hle : decide (s ≤ 1099511627776) = false := decide_eq_false hs1
              have hbad : s < 0 ∨ 1099511627776 < s := by omega
              clear hs0 hs1 hok
              have HOP := hide (put_arg hmsY.sk (kt, kr) v s hbad)
              have HK2 := hide koY
              clear hmsY koY hbad
              go_wp2_with (rw [unhide HY])
              refine (unhide HOP).mono ?_
              rintro e w' ⟨rfl, hbp⟩
              have HMZ : Hid (MS w' b0 sb mb L luck) := (unhide HMSY).below hbp
              have HKZ : Hid (w'.heap[bo]? = some (.cells #[.int .i64 d, .int .i32 kt, .int .i64 kr, .int .i64 v, .int .i64 s, .int .i32 tt, .int .i64 tr, .int .u64 sd, .int .i64 st] 34)) := (hbp.block bo (Array.getElem?_eq_some_iff.1 (unhide HK2)).1).trans (unhide HK2)
              have HBZ : Hid (Below b0 w3 w') := (unhide HBY).trans (hbp.mono (by have := unhide HSZ; omega))
              clear hbp q0 q1 q2 q3 q4 q5 q6 q7 q8 c0 c1 c2 c3 c4 c5 c6 c7 c8
              have HZ := hide (And.intro (unhide HMZ) (And.intro (unhide HKZ) (unhide HBZ)))
              have hkz0 := unhide HKZ
              have zc1 : w'.cell? ⟨bo, 1, none⟩ = some (.int .i32 kt) := cell_at hkz0
              have zc2 : w'.cell? ⟨bo, 2, none⟩ = some (.int .i64 kr) := cell_at hkz0
              clear hkz0
              have hms := unhide HMZ
              rcases ms_cases hms.sk (kt, kr) with ⟨n, r, hL, hR, hk⟩ | ⟨hR, hno⟩
              · have hL0 := trivial
                obtain ⟨np, nk, nv, ns, nh⟩ := n
                have hk' : nk = (kt, kr) := hk
                subst hk'
                have HGET := hide (get_has hms.sk (kt, kr) rfl hR rfl)
                clear hk hR hL0
                go_wp2_with fail
                refine (unhide HGET).mono ?_
                rintro e x1 ⟨rfl, hbx⟩
                obtain ⟨hms, hkz, hbz⟩ := unhide HZ
                have hms : MS w' b0 sb mb L luck := hms
                have hb1' : Below x1.heap.size x1 (x1.alloc (.cells #[.int .i32 kt, .int .i64 kr, .int .i64 nv, .int .i64 ns] 32)) := (Below.refl _ _).alloc (Nat.le_refl _) _
                have hbZ1 : Below w'.heap.size w' (x1.alloc (.cells #[.int .i32 kt, .int .i64 kr, .int .i64 nv, .int .i64 ns] 32)) := hbx.trans (hb1'.mono hbx.size)
                have hbZ2 : Below w'.heap.size w' ((x1.alloc (.cells #[.int .i32 kt, .int .i64 kr, .int .i64 nv, .int .i64 ns] 32)).alloc (.cells #[.int .i32 kt, .int .i64 kr, .int .i64 nv, .int .i64 ns] 32)) := hbZ1.alloc hbZ1.size _
                have hkb : bo < w'.heap.size := (Array.getElem?_eq_some_iff.1 hkz).1
                have hox : x1.heap[bo]? = some (.cells #[.int .i64 d, .int .i32 kt, .int .i64 kr, .int .i64 v, .int .i64 s, .int .i32 tt, .int .i64 tr, .int .u64 sd, .int .i64 st] 34) := (hbx.block bo hkb).trans hkz
                have o1 : x1.cell? ⟨bo, 1, none⟩ = some (.int .i32 kt) := cell_at hox
                have o2 : x1.cell? ⟨bo, 2, none⟩ = some (.int .i64 kr) := cell_at hox
                have oa1 : ∀ o : Obj, (x1.alloc o).cell? ⟨bo, 1, none⟩ = some (.int .i32 kt) := fun _ => cell_old o1
                have oa2 : ∀ o : Obj, (x1.alloc o).cell? ⟨bo, 2, none⟩ = some (.int .i64 kr) := fun _ => cell_old o2
                have hlook : (Instr.lookup 48 (.map (some mb)) (.agg #[.int .i32 kt, .int .i64 kr]) true).run Tryd.prog (x1.alloc (.cells #[.int .i32 kt, .int .i64 kr, .int .i64 nv, .int .i64 ns] 32)) = .ok (.tuple #[.agg #[.int .i32 kt, .int .i64 kr, .int .i64 nv, .int .i64 ns], .bool true]) (x1.alloc (.cells #[.int .i32 kt, .int .i64 kr, .int .i64 nv, .int .i64 ns] 32)) := look_has (hms.map.below hbZ1) hms.sk.rise hms.sk.ok (n := ⟨np, (kt, kr), nv, ns, nh⟩) (by rw [hL]; simp)
                have hneq : ∀ w, (binOp .neq 32 (.agg #[.int .i32 kt, .int .i64 kr, .int .i64 nv, .int .i64 ns]) (.agg #[.int .i32 kt, .int .i64 kr, .int .i64 nv, .int .i64 ns])).run Tryd.prog w = .ok (.bool false) w := fun w => by rw [neq_cell]; simp
                have HREL : Hid (Below b0 w3 ((x1.alloc (.cells #[.int .i32 kt, .int .i64 kr, .int .i64 nv, .int .i64 ns] 32)).alloc (.cells #[.int .i32 kt, .int .i64 kr, .int .i64 nv, .int .i64 ns] 32)) ∧ MS ((x1.alloc (.cells #[.int .i32 kt, .int .i64 kr, .int .i64 nv, .int .i64 ns] 32)).alloc (.cells #[.int .i32 kt, .int .i64 kr, .int .i64 nv, .int .i64 ns] 32)) b0 sb mb L luck) := ⟨hbz.trans (hbZ2.mono (by have := hms.size; omega)), hms.below hbZ2⟩
                clear hbx hms hkz hbz hb1' hbZ1 hbZ2 hkb hox o1 o2 hL zc1 zc2
                go_wp2
                go_roundw
                case rel =>
                  obtain ⟨hi1, hi2, hlen⟩ := unhide HX
                  have hbnd := trivial
                  exact ⟨i1, by omega, rfl, (unhide HREL).1, L, luck, (unhide HREL).2, by omega⟩
                case measure => simpa [intOf] using hm1

              · have hL0 := trivial
                have HGET := hide (get_no hms.sk (kt, kr) rfl rfl hR)
                clear hR hL0
                go_wp2_with fail
                refine (unhide HGET).mono ?_
                rintro e x1 ⟨rfl, hbx⟩
                obtain ⟨hms, hkz, hbz⟩ := unhide HZ
                have hms : MS w' b0 sb mb L luck := hms
                have hb1' : Below x1.heap.size x1 (x1.alloc (.cells #[.int .i32 0, .int .i64 0, .int .i64 0, .int .i64 0] 32)) := (Below.refl _ _).alloc (Nat.le_refl _) _
                have hbZ1 : Below w'.heap.size w' (x1.alloc (.cells #[.int .i32 0, .int .i64 0, .int .i64 0, .int .i64 0] 32)) := hbx.trans (hb1'.mono hbx.size)
                have hbZ2 : Below w'.heap.size w' ((x1.alloc (.cells #[.int .i32 0, .int .i64 0, .int .i64 0, .int .i64 0] 32)).alloc (.cells #[.int .i32 0, .int .i64 0, .int .i64 0, .int .i64 0] 32)) := hbZ1.alloc hbZ1.size _
                have hkb : bo < w'.heap.size := (Array.getElem?_eq_some_iff.1 hkz).1
                have hox : x1.heap[bo]? = some (.cells #[.int .i64 d, .int .i32 kt, .int .i64 kr, .int .i64 v, .int .i64 s, .int .i32 tt, .int .i64 tr, .int .u64 sd, .int .i64 st] 34) := (hbx.block bo hkb).trans hkz
                have o1 : x1.cell? ⟨bo, 1, none⟩ = some (.int .i32 kt) := cell_at hox
                have o2 : x1.cell? ⟨bo, 2, none⟩ = some (.int .i64 kr) := cell_at hox
                have oa1 : ∀ o : Obj, (x1.alloc o).cell? ⟨bo, 1, none⟩ = some (.int .i32 kt) := fun _ => cell_old o1
                have oa2 : ∀ o : Obj, (x1.alloc o).cell? ⟨bo, 2, none⟩ = some (.int .i64 kr) := fun _ => cell_old o2
                have hlook : (Instr.lookup 48 (.map (some mb)) (.agg #[.int .i32 kt, .int .i64 kr]) true).run Tryd.prog (x1.alloc (.cells #[.int .i32 0, .int .i64 0, .int .i64 0, .int .i64 0] 32)) = .ok (.tuple #[.agg #[.int .i32 0, .int .i64 0, .int .i64 0, .int .i64 0], .bool false]) (x1.alloc (.cells #[.int .i32 0, .int .i64 0, .int .i64 0, .int .i64 0] 32)) := look_no (hms.map.below hbZ1) hms.sk.ok (k := (kt, kr)) (unhide HIK) hno
                have hneq : ∀ w, (binOp .neq 32 (.agg #[.int .i32 0, .int .i64 0, .int .i64 0, .int .i64 0]) (.agg #[.int .i32 0, .int .i64 0, .int .i64 0, .int .i64 0])).run Tryd.prog w = .ok (.bool false) w := fun w => by rw [neq_cell]; simp
                have HREL : Hid (Below b0 w3 ((x1.alloc (.cells #[.int .i32 0, .int .i64 0, .int .i64 0, .int .i64 0] 32)).alloc (.cells #[.int .i32 0, .int .i64 0, .int .i64 0, .int .i64 0] 32)) ∧ MS ((x1.alloc (.cells #[.int .i32 0, .int .i64 0, .int .i64 0, .int .i64 0] 32)).alloc (.cells #[.int .i32 0, .int .i64 0, .int .i64 0, .int .i64 0] 32)) b0 sb mb L luck) := ⟨hbz.trans (hbZ2.mono (by have := hms.size; omega)), hms.below hbZ2⟩
                clear hbx hms hkz hbz hb1' hbZ1 hbZ2 hkb hox o1 o2 hno zc1 zc2
                go_wp2
                go_roundw
                case rel =>
                  obtain ⟨hi1, hi2, hlen⟩ := unhide HX
                  have hbnd := trivial
                  exact ⟨i1, by omega, rfl, (unhide HREL).1, L, luck, (unhide HREL).2, by omega⟩
                case measure => simpa [intOf] using hm1

          · have hge : decide (0 ≤ s) = false := decide_eq_false hs0
            have hge' : decide (s ≥ 0) = false := hge
            have hbad : s < 0 ∨ 1099511627776 < s := by omega
            clear hs0 hok
            have HOP := hide (put_arg hmsY.sk (kt, kr) v s hbad)
            have HK2 := hide koY
            clear hmsY koY hbad
            go_wp2_with (rw [unhide HY])
            refine (unhide HOP).mono ?_
            rintro e w' ⟨rfl, hbp⟩
            have HMZ : Hid (MS w' b0 sb mb L luck) := (unhide HMSY).below hbp
            have HKZ : Hid (w'.heap[bo]? = some (.cells #[.int .i64 d, .int .i32 kt, .int .i64 kr, .int .i64 v, .int .i64 s, .int .i32 tt, .int .i64 tr, .int .u64 sd, .int .i64 st] 34)) := (hbp.block bo (Array.getElem?_eq_some_iff.1 (unhide HK2)).1).trans (unhide HK2)
            have HBZ : Hid (Below b0 w3 w') := (unhide HBY).trans (hbp.mono (by have := unhide HSZ; omega))
            clear hbp q0 q1 q2 q3 q4 q5 q6 q7 q8 c0 c1 c2 c3 c4 c5 c6 c7 c8
            have HZ := hide (And.intro (unhide HMZ) (And.intro (unhide HKZ) (unhide HBZ)))
            have hkz0 := unhide HKZ
            have zc1 : w'.cell? ⟨bo, 1, none⟩ = some (.int .i32 kt) := cell_at hkz0
            have zc2 : w'.cell? ⟨bo, 2, none⟩ = some (.int .i64 kr) := cell_at hkz0
            clear hkz0
            have hms := unhide HMZ
            rcases ms_cases hms.sk (kt, kr) with ⟨n, r, hL, hR, hk⟩ | ⟨hR, hno⟩
            · have hL0 := trivial
              obtain ⟨np, nk, nv, ns, nh⟩ := n
              have hk' : nk = (kt, kr) := hk
              subst hk'
              have HGET := hide (get_has hms.sk (kt, kr) rfl hR rfl)
              clear hk hR hL0
              go_wp2_with fail
              refine (unhide HGET).mono ?_
              rintro e x1 ⟨rfl, hbx⟩
              obtain ⟨hms, hkz, hbz⟩ := unhide HZ
              have hms : MS w' b0 sb mb L luck := hms
              have hb1' : Below x1.heap.size x1 (x1.alloc (.cells #[.int .i32 kt, .int .i64 kr, .int .i64 nv, .int .i64 ns] 32)) := (Below.refl _ _).alloc (Nat.le_refl _) _
              have hbZ1 : Below w'.heap.size w' (x1.alloc (.cells #[.int .i32 kt, .int .i64 kr, .int .i64 nv, .int .i64 ns] 32)) := hbx.trans (hb1'.mono hbx.size)
              have hbZ2 : Below w'.heap.size w' ((x1.alloc (.cells #[.int .i32 kt, .int .i64 kr, .int .i64 nv, .int .i64 ns] 32)).alloc (.cells #[.int .i32 kt, .int .i64 kr, .int .i64 nv, .int .i64 ns] 32)) := hbZ1.alloc hbZ1.size _
              have hkb : bo < w'.heap.size := (Array.getElem?_eq_some_iff.1 hkz).1
              have hox : x1.heap[bo]? = some (.cells #[.int .i64 d, .int .i32 kt, .int .i64 kr, .int .i64 v, .int .i64 s, .int .i32 tt, .int .i64 tr, .int .u64 sd, .int .i64 st] 34) := (hbx.block bo hkb).trans hkz
              have o1 : x1.cell? ⟨bo, 1, none⟩ = some (.int .i32 kt) := cell_at hox
              have o2 : x1.cell? ⟨bo, 2, none⟩ = some (.int .i64 kr) := cell_at hox
              have oa1 : ∀ o : Obj, (x1.alloc o).cell? ⟨bo, 1, none⟩ = some (.int .i32 kt) := fun _ => cell_old o1
              have oa2 : ∀ o : Obj, (x1.alloc o).cell? ⟨bo, 2, none⟩ = some (.int .i64 kr) := fun _ => cell_old o2
              have hlook : (Instr.lookup 48 (.map (some mb)) (.agg #[.int .i32 kt, .int .i64 kr]) true).run Tryd.prog (x1.alloc (.cells #[.int .i32 kt, .int .i64 kr, .int .i64 nv, .int .i64 ns] 32)) = .ok (.tuple #[.agg #[.int .i32 kt, .int .i64 kr, .int .i64 nv, .int .i64 ns], .bool true]) (x1.alloc (.cells #[.int .i32 kt, .int .i64 kr, .int .i64 nv, .int .i64 ns] 32)) := look_has (hms.map.below hbZ1) hms.sk.rise hms.sk.ok (n := ⟨np, (kt, kr), nv, ns, nh⟩) (by rw [hL]; simp)
              have hneq : ∀ w, (binOp .neq 32 (.agg #[.int .i32 kt, .int .i64 kr, .int .i64 nv, .int .i64 ns]) (.agg #[.int .i32 kt, .int .i64 kr, .int .i64 nv, .int .i64 ns])).run Tryd.prog w = .ok (.bool false) w := fun w => by rw [neq_cell]; simp
              have HREL : Hid (Below b0 w3 ((x1.alloc (.cells #[.int .i32 kt, .int .i64 kr, .int .i64 nv, .int .i64 ns] 32)).alloc (.cells #[.int .i32 kt, .int .i64 kr, .int .i64 nv, .int .i64 ns] 32)) ∧ MS ((x1.alloc (.cells #[.int .i32 kt, .int .i64 kr, .int .i64 nv, .int .i64 ns] 32)).alloc (.cells #[.int .i32 kt, .int .i64 kr, .int .i64 nv, .int .i64 ns] 32)) b0 sb mb L luck) := ⟨hbz.trans (hbZ2.mono (by have := hms.size; omega)), hms.below hbZ2⟩
              clear hbx hms hkz hbz hb1' hbZ1 hbZ2 hkb hox o1 o2 hL zc1 zc2
              go_wp2
              go_roundw
              case rel =>
                obtain ⟨hi1, hi2, hlen⟩ := unhide HX
                have hbnd := trivial
                exact ⟨i1, by omega, rfl, (unhide HREL).1, L, luck, (unhide HREL).2, by omega⟩
              case measure => simpa [intOf] using hm1

            · have hL0 := trivial
              have HGET := hide (get_no hms.sk (kt, kr) rfl rfl hR)
              clear hR hL0
              go_wp2_with fail
              refine (unhide HGET).mono ?_
              rintro e x1 ⟨rfl, hbx⟩
              obtain ⟨hms, hkz, hbz⟩ := unhide HZ
              have hms : MS w' b0 sb mb L luck := hms
              have hb1' : Below x1.heap.size x1 (x1.alloc (.cells #[.int .i32 0, .int .i64 0, .int .i64 0, .int .i64 0] 32)) := (Below.refl _ _).alloc (Nat.le_refl _) _
              have hbZ1 : Below w'.heap.size w' (x1.alloc (.cells #[.int .i32 0, .int .i64 0, .int .i64 0, .int .i64 0] 32)) := hbx.trans (hb1'.mono hbx.size)
              have hbZ2 : Below w'.heap.size w' ((x1.alloc (.cells #[.int .i32 0, .int .i64 0, .int .i64 0, .int .i64 0] 32)).alloc (.cells #[.int .i32 0, .int .i64 0, .int .i64 0, .int .i64 0] 32)) := hbZ1.alloc hbZ1.size _
              have hkb : bo < w'.heap.size := (Array.getElem?_eq_some_iff.1 hkz).1
              have hox : x1.heap[bo]? = some (.cells #[.int .i64 d, .int .i32 kt, .int .i64 kr, .int .i64 v, .int .i64 s, .int .i32 tt, .int .i64 tr, .int .u64 sd, .int .i64 st] 34) := (hbx.block bo hkb).trans hkz
              have o1 : x1.cell? ⟨bo, 1, none⟩ = some (.int .i32 kt) := cell_at hox
              have o2 : x1.cell? ⟨bo, 2, none⟩ = some (.int .i64 kr) := cell_at hox
              have oa1 : ∀ o : Obj, (x1.alloc o).cell? ⟨bo, 1, none⟩ = some (.int .i32 kt) := fun _ => cell_old o1
              have oa2 : ∀ o : Obj, (x1.alloc o).cell? ⟨bo, 2, none⟩ = some (.int .i64 kr) := fun _ => cell_old o2
              have hlook : (Instr.lookup 48 (.map (some mb)) (.agg #[.int .i32 kt, .int .i64 kr]) true).run Tryd.prog (x1.alloc (.cells #[.int .i32 0, .int .i64 0, .int .i64 0, .int .i64 0] 32)) = .ok (.tuple #[.agg #[.int .i32 0, .int .i64 0, .int .i64 0, .int .i64 0], .bool false]) (x1.alloc (.cells #[.int .i32 0, .int .i64 0, .int .i64 0, .int .i64 0] 32)) := look_no (hms.map.below hbZ1) hms.sk.ok (k := (kt, kr)) (unhide HIK) hno
              have hneq : ∀ w, (binOp .neq 32 (.agg #[.int .i32 0, .int .i64 0, .int .i64 0, .int .i64 0]) (.agg #[.int .i32 0, .int .i64 0, .int .i64 0, .int .i64 0])).run Tryd.prog w = .ok (.bool false) w := fun w => by rw [neq_cell]; simp
              have HREL : Hid (Below b0 w3 ((x1.alloc (.cells #[.int .i32 0, .int .i64 0, .int .i64 0, .int .i64 0] 32)).alloc (.cells #[.int .i32 0, .int .i64 0, .int .i64 0, .int .i64 0] 32)) ∧ MS ((x1.alloc (.cells #[.int .i32 0, .int .i64 0, .int .i64 0, .int .i64 0] 32)).alloc (.cells #[.int .i32 0, .int .i64 0, .int .i64 0, .int .i64 0] 32)) b0 sb mb L luck) := ⟨hbz.trans (hbZ2.mono (by have := hms.size; omega)), hms.below hbZ2⟩
              clear hbx hms hkz hbz hb1' hbZ1 hbZ2 hkb hox o1 o2 hno zc1 zc2
              go_wp2
              go_roundw
              case rel =>
                obtain ⟨hi1, hi2, hlen⟩ := unhide HX
                have hbnd := trivial
                exact ⟨i1, by omega, rfl, (unhide HREL).1, L, luck, (unhide HREL).2, by omega⟩
              case measure => simpa [intOf] using hm1

      · obtain rfl : i = 300 := by omega
        have HLn := hide (len_any hs.sk)
        have hlen2 := fun ty => map_len hs.map ty
        have HRI := hide (rising_any hs.sk hs.map)
        obtain ⟨c, hc⟩ : ∃ c : Nat, L.length = c := ⟨_, rfl⟩
        rw [hc] at HLn
        simp only [hc] at hlen2
        have hlen3 := hlen2 3
        have heq : ((c : Int) == (c : Int)) = true := by simp
        have HBR := hide (And.intro hbr hs.size)
        clear hlt hi hbr hs hlen hc hlen2
        go_wp2_with fail
        refine (unhide HLn).mono ?_
        rintro e x3 ⟨rfl, rfl⟩
        go_wp2_with fail
        refine (unhide HRI).mono ?_
        rintro e x4 ⟨rfl, hb4⟩
        have HB4 := hide hb4
        clear hb4
        go_wp2
        go_ret
        exact ⟨rfl, (unhide HBW).trans ((unhide HBR).1.trans ((unhide HB4).mono (by have := (unhide HBR).2; omega)))⟩

  · go_wp2_with (first | rw [unhide HW3] | rw [hmb])
    go_loopw [33] (fun t wr => ∃ i : Nat, i ≤ n ∧ t = .int .i64 i ∧ Below b0 w3 wr ∧ ∃ L luck, MS wr b0 sb mb L luck ∧ L.length ≤ i) (fun t _ => n - (intOf t).toNat)
    case atStart => exact ⟨0, by omega, rfl, Below.refl _ _, [], seed, unhide HMS, by simp⟩
    case round =>
      obtain ⟨i, hi, rfl, hbr, L, luck, hs, hlen⟩ := hrel
      by_cases hlt : i < n
      · obtain ⟨hcl, hok⟩ := unhide HOPS i (by omega)
        obtain rfl := haoS (by omega)
        obtain ⟨o, ho⟩ : ∃ o, ops.getD i default = o := ⟨_, rfl⟩
        rw [ho] at hok
        replace hcl : ∀ j, j < 9 → wr.cell? ⟨gb, ob + i * 9 + j, none⟩ = (oC o)[j]? := fun j hj => by
          have h0 := hcl j hj
          rw [ho] at h0
          have hlt' : gb < b0 := by
            have := List.getElem?_eq_getElem (l := oC o) (i := j) hj
            rw [this] at h0
            rw [← hb0]; exact World.block_lt_of_cell? w _ h0
          rw [← h0]
          exact ((unhide HBW).trans hbr).cell (p := ⟨gb, ob + i * 9 + j, none⟩) hlt'
        obtain ⟨d, ⟨⟨kt, kr⟩, v, s⟩, ⟨tt, tr⟩, sd, st⟩ := o
        have q0 : wr.cell? ⟨gb, ob + i * 9, none⟩ = some (.int .i64 d) := hcl 0 (by decide)
        have q1 : wr.cell? ⟨gb, ob + i * 9 + 1, none⟩ = some (.int .i32 kt) := hcl 1 (by decide)
        have q2 : wr.cell? ⟨gb, ob + i * 9 + 2, none⟩ = some (.int .i64 kr) := hcl 2 (by decide)
        have q3 : wr.cell? ⟨gb, ob + i * 9 + 3, none⟩ = some (.int .i64 v) := hcl 3 (by decide)
        have q4 : wr.cell? ⟨gb, ob + i * 9 + 4, none⟩ = some (.int .i64 s) := hcl 4 (by decide)
        have q5 : wr.cell? ⟨gb, ob + i * 9 + 5, none⟩ = some (.int .i32 tt) := hcl 5 (by decide)
        have q6 : wr.cell? ⟨gb, ob + i * 9 + 6, none⟩ = some (.int .i64 tr) := hcl 6 (by decide)
        have q7 : wr.cell? ⟨gb, ob + i * 9 + 7, none⟩ = some (.int .u64 sd) := hcl 7 (by decide)
        have q8 : wr.cell? ⟨gb, ob + i * 9 + 8, none⟩ = some (.int .i64 st) := hcl 8 (by decide)
        obtain ⟨bo, hbo⟩ : ∃ x, wr.heap.size = x := ⟨_, rfl⟩
        obtain ⟨Y, hY⟩ : ∃ Y, wr.alloc (.cells #[.int .i64 d, .int .i32 kt, .int .i64 kr, .int .i64 v, .int .i64 s, .int .i32 tt, .int .i64 tr, .int .u64 sd, .int .i64 st] 34) = Y := ⟨_, rfl⟩
        have hbY : Below wr.heap.size wr Y := by rw [← hY]; exact (Below.refl _ _).alloc (Nat.le_refl _) _
        have koY : Y.heap[bo]? = some (.cells #[.int .i64 d, .int .i32 kt, .int .i64 kr, .int .i64 v, .int .i64 s, .int .i32 tt, .int .i64 tr, .int .u64 sd, .int .i64 st] 34) := by rw [← hY, ← hbo]; exact heap_new1 _ _
        have c0 : Y.cell? ⟨bo, 0, none⟩ = some (.int .i64 d) := cell_at koY
        have c1 : Y.cell? ⟨bo, 1, none⟩ = some (.int .i32 kt) := cell_at koY
        have c2 : Y.cell? ⟨bo, 2, none⟩ = some (.int .i64 kr) := cell_at koY
        have c3 : Y.cell? ⟨bo, 3, none⟩ = some (.int .i64 v) := cell_at koY
        have c4 : Y.cell? ⟨bo, 4, none⟩ = some (.int .i64 s) := cell_at koY
        have c5 : Y.cell? ⟨bo, 5, none⟩ = some (.int .i32 tt) := cell_at koY
        have c6 : Y.cell? ⟨bo, 6, none⟩ = some (.int .i64 tr) := cell_at koY
        have c7 : Y.cell? ⟨bo, 7, none⟩ = some (.int .u64 sd) := cell_at koY
        have c8 : Y.cell? ⟨bo, 8, none⟩ = some (.int .i64 st) := cell_at koY
        have hszb := hs.size
        have hmsY := hs.below hbY
        have hbrY : Below b0 w3 Y := hbr.trans (hbY.mono (by omega))
        have HTY : Hid (Tab Y) := (unhide HT3).keep (hbrY.block 0 (by omega))
        have HBO : Hid (¬ Bm sb b0 mb L bo) := fun c => by have := hs.lt c; omega
        have HIK : Hid (InK (kt, kr)) := ⟨hok.k.1, hok.k.2⟩
        have HMSY := hide hmsY
        have HBY := hide hbrY
        have HSZ : Hid (b0 ≤ Y.heap.size) := by have := hbY.size; show b0 ≤ Y.heap.size; omega
        have hdb : decide ((i : Int) < (n : Int)) = true := by simp; omega
        have hi0 : (0 : Int) ≤ (i : Int) := by omega
        have hi1 : (i : Int) < (n : Int) := by omega
        obtain ⟨i1, hi1e⟩ : ∃ i1, i + 1 = i1 := ⟨_, rfl⟩
        have hwi : IntKind.i64.wrap ((i : Int) + 1) = (i1 : Int) := by rw [wrap_i64 _ (by omega) (by omega)]; omega
        have hm1 : n - i1 < n - i := by omega
        have HX : Hid (i1 ≤ n ∧ i + 1 = i1 ∧ (L.length ≤ i ∧ i < 300)) := ⟨by omega, by omega, by omega, by omega⟩
        have HY := hide hY
        clear hcl ho hbr hs hlen hlt hi hbY hbrY hszb hi1e hY
        try rw [hbo]
        by_cases hd : d = 1
        · have hdt : (d == 1) = true := by simpa using hd
          clear hd
          rcases ms_cases hmsY.sk (kt, kr) with ⟨n, r, hL, hR, hk⟩ | ⟨hR, hno⟩
          · clear hok
            obtain ⟨np, nk, nv, ns, nh⟩ := n
            have hk' : nk = (kt, kr) := hk
            subst hk'
            have hlook : (Instr.lookup 48 (.map (some mb)) (.agg #[.int .i32 kt, .int .i64 kr]) true).run Tryd.prog Y = .ok (.tuple #[.agg #[.int .i32 kt, .int .i64 kr, .int .i64 nv, .int .i64 ns], .bool true]) Y := look_has hmsY.map hmsY.sk.rise hmsY.sk.ok (n := ⟨np, (kt, kr), nv, ns, nh⟩) (by rw [hL]; simp)
            obtain ⟨Y2, hY2⟩ : ∃ Z, Y.alloc (.cells #[.int .i32 kt, .int .i64 kr, .int .i64 nv, .int .i64 ns] 32) = Z := ⟨_, rfl⟩
            have hbY2 : Below Y.heap.size Y Y2 := by rw [← hY2]; exact (Below.refl _ _).alloc (Nat.le_refl _) _
            have koY2 : Y2.heap[bo]? = some (.cells #[.int .i64 d, .int .i32 kt, .int .i64 kr, .int .i64 v, .int .i64 s, .int .i32 tt, .int .i64 tr, .int .u64 sd, .int .i64 st] 34) := (hbY2.block bo (Array.getElem?_eq_some_iff.1 koY).1).trans koY
            have e1 : ∀ o : Obj, (Y.alloc o).cell? ⟨bo, 1, none⟩ = some (.int .i32 kt) := fun _ => cell_old c1
            have e2 : ∀ o : Obj, (Y.alloc o).cell? ⟨bo, 2, none⟩ = some (.int .i64 kr) := fun _ => cell_old c2
            have HOP := hide (ms_erase_has (hmsY.below hbY2) (kt, kr) hL hR rfl)
            have HK2 := hide (And.intro koY2 hbY2)
            have HY2 := hide hY2
            clear koY2 hbY2 hY2 hmsY koY hR hL hk
            go_wp2_with (rw [unhide HY])
            rw [unhide HY2]
            refine (unhide HOP).mono ?_
            rintro e w' ⟨rfl, hU, y, L', luck', hdel, hms', hl', hUy⟩
            obtain ⟨koY2, hbY2⟩ := unhide HK2
            have ko' : w'.heap[bo]? = some (.cells #[.int .i64 d, .int .i32 kt, .int .i64 kr, .int .i64 v, .int .i64 s, .int .i32 tt, .int .i64 tr, .int .u64 sd, .int .i64 st] 34) := (hU.block bo (Array.getElem?_eq_some_iff.1 koY2).1 (fun c => unhide HBO (.inl c))).trans koY2
            have g1 : w'.cell? ⟨bo, 1, none⟩ = some (.int .i32 kt) := cell_at ko'
            have g2 : w'.cell? ⟨bo, 2, none⟩ = some (.int .i64 kr) := cell_at ko'
            have hdel0 := hdel 0
            have HREL : Hid (Below b0 w3 y ∧ MS y b0 sb mb L' luck') := ⟨(unhide HBY).trans ((hbY2.mono (by have := unhide HSZ; omega)).trans (((unhide HMSY).below hbY2).frame hUy)), hms'⟩
            have HLL := hide hl'
            clear hU hms' hl' hUy koY2 hbY2 ko' e1 e2 q0 q1 q2 q3 q4 q5 q6 q7 q8 c0 c1 c2 c3 c4 c5 c6 c7 c8 hlook
            go_wp2
            go_roundw
            case rel =>
              obtain ⟨hi1, hi2, hlen⟩ := unhide HX
              have hbnd := unhide HLL
              exact ⟨i1, by omega, rfl, (unhide HREL).1, L', luck', (unhide HREL).2, by omega⟩
            case measure => simpa [intOf] using hm1

          · clear hok
            have hlook : (Instr.lookup 48 (.map (some mb)) (.agg #[.int .i32 kt, .int .i64 kr]) true).run Tryd.prog Y = .ok (.tuple #[.agg #[.int .i32 0, .int .i64 0, .int .i64 0, .int .i64 0], .bool false]) Y := look_no hmsY.map hmsY.sk.ok (k := (kt, kr)) (unhide HIK) hno
            obtain ⟨Y2, hY2⟩ : ∃ Z, Y.alloc (.cells #[.int .i32 0, .int .i64 0, .int .i64 0, .int .i64 0] 32) = Z := ⟨_, rfl⟩
            have hbY2 : Below Y.heap.size Y Y2 := by rw [← hY2]; exact (Below.refl _ _).alloc (Nat.le_refl _) _
            have koY2 : Y2.heap[bo]? = some (.cells #[.int .i64 d, .int .i32 kt, .int .i64 kr, .int .i64 v, .int .i64 s, .int .i32 tt, .int .i64 tr, .int .u64 sd, .int .i64 st] 34) := (hbY2.block bo (Array.getElem?_eq_some_iff.1 koY).1).trans koY
            have e1 : ∀ o : Obj, (Y.alloc o).cell? ⟨bo, 1, none⟩ = some (.int .i32 kt) := fun _ => cell_old c1
            have e2 : ∀ o : Obj, (Y.alloc o).cell? ⟨bo, 2, none⟩ = some (.int .i64 kr) := fun _ => cell_old c2
            have HOP := hide (ms_erase_no (hmsY.below hbY2) (kt, kr) (unhide HIK) hR hno)
            have HK2 := hide (And.intro koY2 hbY2)
            have HY2 := hide hY2
            clear koY2 hbY2 hY2 hmsY koY hR hno
            go_wp2_with (rw [unhide HY])
            rw [unhide HY2]
            refine (unhide HOP).mono ?_
            rintro e w' ⟨rfl, hU, y, L', luck', hdel, hms', hl', hUy⟩
            obtain ⟨koY2, hbY2⟩ := unhide HK2
            have ko' : w'.heap[bo]? = some (.cells #[.int .i64 d, .int .i32 kt, .int .i64 kr, .int .i64 v, .int .i64 s, .int .i32 tt, .int .i64 tr, .int .u64 sd, .int .i64 st] 34) := (hU.block bo (Array.getElem?_eq_some_iff.1 koY2).1 (fun c => unhide HBO (.inl c))).trans koY2
            have g1 : w'.cell? ⟨bo, 1, none⟩ = some (.int .i32 kt) := cell_at ko'
            have g2 : w'.cell? ⟨bo, 2, none⟩ = some (.int .i64 kr) := cell_at ko'
            have hdel0 := hdel 0
            have HREL : Hid (Below b0 w3 y ∧ MS y b0 sb mb L' luck') := ⟨(unhide HBY).trans ((hbY2.mono (by have := unhide HSZ; omega)).trans (((unhide HMSY).below hbY2).frame hUy)), hms'⟩
            have HLL := hide hl'
            clear hU hms' hl' hUy koY2 hbY2 ko' e1 e2 q0 q1 q2 q3 q4 q5 q6 q7 q8 c0 c1 c2 c3 c4 c5 c6 c7 c8 hlook
            go_wp2
            go_roundw
            case rel =>
              obtain ⟨hi1, hi2, hlen⟩ := unhide HX
              have hbnd := unhide HLL
              exact ⟨i1, by omega, rfl, (unhide HREL).1, L', luck', (unhide HREL).2, by omega⟩
            case measure => simpa [intOf] using hm1

        · have hdf : (d == 1) = false := by simpa using hd
          clear hd
          by_cases hs0 : 0 ≤ s
          · by_cases hs1 : s ≤ 1099511627776
            · have hge : decide (0 ≤ s) = true := decide_eq_true hs0
              have hge' : decide (s ≥ 0) = true := hge
              have hle : decide (s ≤ 1099511627776) = true := decide_eq_true hs1
              have HOP := hide (ms_put hmsY (unhide HTY) hb00 ((kt, kr), v, s) (unhide HIK) hok.v hs0 hs1 (by have := (unhide HX).2.2; omega))
              have HK2 := hide koY
              clear hmsY koY hs0 hs1 hok
              go_wp2_with (rw [unhide HY])
              refine (unhide HOP).mono ?_
              rintro e w' ⟨rfl, hU, y, L', luck', hupd, hms', hl', hUy⟩
              have ko' : w'.heap[bo]? = some (.cells #[.int .i64 d, .int .i32 kt, .int .i64 kr, .int .i64 v, .int .i64 s, .int .i32 tt, .int .i64 tr, .int .u64 sd, .int .i64 st] 34) := (hU.block bo (Array.getElem?_eq_some_iff.1 (unhide HK2)).1 (fun c => unhide HBO (.inl c))).trans (unhide HK2)
              have g1 : w'.cell? ⟨bo, 1, none⟩ = some (.int .i32 kt) := cell_at ko'
              have g2 : w'.cell? ⟨bo, 2, none⟩ = some (.int .i64 kr) := cell_at ko'
              have g3 : w'.cell? ⟨bo, 3, none⟩ = some (.int .i64 v) := cell_at ko'
              have g4 : w'.cell? ⟨bo, 4, none⟩ = some (.int .i64 s) := cell_at ko'
              have HMZ := hide hms'
              have HKZ : Hid (y.heap[bo]? = some (.cells #[.int .i64 d, .int .i32 kt, .int .i64 kr, .int .i64 v, .int .i64 s, .int .i32 tt, .int .i64 tr, .int .u64 sd, .int .i64 st] 34)) := (hUy.block bo (Array.getElem?_eq_some_iff.1 (unhide HK2)).1 (unhide HBO)).trans (unhide HK2)
              have HBZ : Hid (Below b0 w3 y) := (unhide HBY).trans ((unhide HMSY).frame hUy)
              have HLL := hide hl'
              clear hU hms' hl' hUy ko' q0 q1 q2 q3 q4 q5 q6 q7 q8 c0 c1 c2 c3 c4 c5 c6 c7 c8
              have HZ := hide (And.intro (unhide HMZ) (And.intro (unhide HKZ) (unhide HBZ)))
              have hkz0 := unhide HKZ
              have zc1 : y.cell? ⟨bo, 1, none⟩ = some (.int .i32 kt) := cell_at hkz0
              have zc2 : y.cell? ⟨bo, 2, none⟩ = some (.int .i64 kr) := cell_at hkz0
              clear hkz0
              have hms := unhide HMZ
              rcases ms_cases hms.sk (kt, kr) with ⟨n, r, hL, hR, hk⟩ | ⟨hR, hno⟩
              · have hL0 := trivial
                obtain ⟨np, nk, nv, ns, nh⟩ := n
                have hk' : nk = (kt, kr) := hk
                subst hk'
                have HGET := hide (get_has hms.sk (kt, kr) rfl hR rfl)
                clear hk hR hL0
                go_wp2_with fail
                refine (unhide HGET).mono ?_
                rintro e x1 ⟨rfl, hbx⟩
                obtain ⟨hms, hkz, hbz⟩ := unhide HZ
                have hms : MS y b0 sb mb L' luck' := hms
                have hb1' : Below x1.heap.size x1 (x1.alloc (.cells #[.int .i32 kt, .int .i64 kr, .int .i64 nv, .int .i64 ns] 32)) := (Below.refl _ _).alloc (Nat.le_refl _) _
                have hbZ1 : Below y.heap.size y (x1.alloc (.cells #[.int .i32 kt, .int .i64 kr, .int .i64 nv, .int .i64 ns] 32)) := hbx.trans (hb1'.mono hbx.size)
                have hbZ2 : Below y.heap.size y ((x1.alloc (.cells #[.int .i32 kt, .int .i64 kr, .int .i64 nv, .int .i64 ns] 32)).alloc (.cells #[.int .i32 kt, .int .i64 kr, .int .i64 nv, .int .i64 ns] 32)) := hbZ1.alloc hbZ1.size _
                have hkb : bo < y.heap.size := (Array.getElem?_eq_some_iff.1 hkz).1
                have hox : x1.heap[bo]? = some (.cells #[.int .i64 d, .int .i32 kt, .int .i64 kr, .int .i64 v, .int .i64 s, .int .i32 tt, .int .i64 tr, .int .u64 sd, .int .i64 st] 34) := (hbx.block bo hkb).trans hkz
                have o1 : x1.cell? ⟨bo, 1, none⟩ = some (.int .i32 kt) := cell_at hox
                have o2 : x1.cell? ⟨bo, 2, none⟩ = some (.int .i64 kr) := cell_at hox
                have oa1 : ∀ o : Obj, (x1.alloc o).cell? ⟨bo, 1, none⟩ = some (.int .i32 kt) := fun _ => cell_old o1
                have oa2 : ∀ o : Obj, (x1.alloc o).cell? ⟨bo, 2, none⟩ = some (.int .i64 kr) := fun _ => cell_old o2
                have hlook : (Instr.lookup 48 (.map (some mb)) (.agg #[.int .i32 kt, .int .i64 kr]) true).run Tryd.prog (x1.alloc (.cells #[.int .i32 kt, .int .i64 kr, .int .i64 nv, .int .i64 ns] 32)) = .ok (.tuple #[.agg #[.int .i32 kt, .int .i64 kr, .int .i64 nv, .int .i64 ns], .bool true]) (x1.alloc (.cells #[.int .i32 kt, .int .i64 kr, .int .i64 nv, .int .i64 ns] 32)) := look_has (hms.map.below hbZ1) hms.sk.rise hms.sk.ok (n := ⟨np, (kt, kr), nv, ns, nh⟩) (by rw [hL]; simp)
                have hneq : ∀ w, (binOp .neq 32 (.agg #[.int .i32 kt, .int .i64 kr, .int .i64 nv, .int .i64 ns]) (.agg #[.int .i32 kt, .int .i64 kr, .int .i64 nv, .int .i64 ns])).run Tryd.prog w = .ok (.bool false) w := fun w => by rw [neq_cell]; simp
                have HREL : Hid (Below b0 w3 ((x1.alloc (.cells #[.int .i32 kt, .int .i64 kr, .int .i64 nv, .int .i64 ns] 32)).alloc (.cells #[.int .i32 kt, .int .i64 kr, .int .i64 nv, .int .i64 ns] 32)) ∧ MS ((x1.alloc (.cells #[.int .i32 kt, .int .i64 kr, .int .i64 nv, .int .i64 ns] 32)).alloc (.cells #[.int .i32 kt, .int .i64 kr, .int .i64 nv, .int .i64 ns] 32)) b0 sb mb L' luck') := ⟨hbz.trans (hbZ2.mono (by have := hms.size; omega)), hms.below hbZ2⟩
                clear hbx hms hkz hbz hb1' hbZ1 hbZ2 hkb hox o1 o2 hL zc1 zc2
                go_wp2
                go_roundw
                case rel =>
                  obtain ⟨hi1, hi2, hlen⟩ := unhide HX
                  have hbnd := unhide HLL
                  exact ⟨i1, by omega, rfl, (unhide HREL).1, L', luck', (unhide HREL).2, by omega⟩
                case measure => simpa [intOf] using hm1

              · have hL0 := trivial
                have HGET := hide (get_no hms.sk (kt, kr) rfl rfl hR)
                clear hR hL0
                go_wp2_with fail
                refine (unhide HGET).mono ?_
                rintro e x1 ⟨rfl, hbx⟩
                obtain ⟨hms, hkz, hbz⟩ := unhide HZ
                have hms : MS y b0 sb mb L' luck' := hms
                have hb1' : Below x1.heap.size x1 (x1.alloc (.cells #[.int .i32 0, .int .i64 0, .int .i64 0, .int .i64 0] 32)) := (Below.refl _ _).alloc (Nat.le_refl _) _
                have hbZ1 : Below y.heap.size y (x1.alloc (.cells #[.int .i32 0, .int .i64 0, .int .i64 0, .int .i64 0] 32)) := hbx.trans (hb1'.mono hbx.size)
                have hbZ2 : Below y.heap.size y ((x1.alloc (.cells #[.int .i32 0, .int .i64 0, .int .i64 0, .int .i64 0] 32)).alloc (.cells #[.int .i32 0, .int .i64 0, .int .i64 0, .int .i64 0] 32)) := hbZ1.alloc hbZ1.size _
                have hkb : bo < y.heap.size := (Array.getElem?_eq_some_iff.1 hkz).1
                have hox : x1.heap[bo]? = some (.cells #[.int .i64 d, .int .i32 kt, .int .i64 kr, .int .i64 v, .int .i64 s, .int .i32 tt, .int .i64 tr, .int .u64 sd, .int .i64 st] 34) := (hbx.block bo hkb).trans hkz
                have o1 : x1.cell? ⟨bo, 1, none⟩ = some (.int .i32 kt) := cell_at hox
                have o2 : x1.cell? ⟨bo, 2, none⟩ = some (.int .i64 kr) := cell_at hox
                have oa1 : ∀ o : Obj, (x1.alloc o).cell? ⟨bo, 1, none⟩ = some (.int .i32 kt) := fun _ => cell_old o1
                have oa2 : ∀ o : Obj, (x1.alloc o).cell? ⟨bo, 2, none⟩ = some (.int .i64 kr) := fun _ => cell_old o2
                have hlook : (Instr.lookup 48 (.map (some mb)) (.agg #[.int .i32 kt, .int .i64 kr]) true).run Tryd.prog (x1.alloc (.cells #[.int .i32 0, .int .i64 0, .int .i64 0, .int .i64 0] 32)) = .ok (.tuple #[.agg #[.int .i32 0, .int .i64 0, .int .i64 0, .int .i64 0], .bool false]) (x1.alloc (.cells #[.int .i32 0, .int .i64 0, .int .i64 0, .int .i64 0] 32)) := look_no (hms.map.below hbZ1) hms.sk.ok (k := (kt, kr)) (unhide HIK) hno
                have hneq : ∀ w, (binOp .neq 32 (.agg #[.int .i32 0, .int .i64 0, .int .i64 0, .int .i64 0]) (.agg #[.int .i32 0, .int .i64 0, .int .i64 0, .int .i64 0])).run Tryd.prog w = .ok (.bool false) w := fun w => by rw [neq_cell]; simp
                have HREL : Hid (Below b0 w3 ((x1.alloc (.cells #[.int .i32 0, .int .i64 0, .int .i64 0, .int .i64 0] 32)).alloc (.cells #[.int .i32 0, .int .i64 0, .int .i64 0, .int .i64 0] 32)) ∧ MS ((x1.alloc (.cells #[.int .i32 0, .int .i64 0, .int .i64 0, .int .i64 0] 32)).alloc (.cells #[.int .i32 0, .int .i64 0, .int .i64 0, .int .i64 0] 32)) b0 sb mb L' luck') := ⟨hbz.trans (hbZ2.mono (by have := hms.size; omega)), hms.below hbZ2⟩
                clear hbx hms hkz hbz hb1' hbZ1 hbZ2 hkb hox o1 o2 hno zc1 zc2
                go_wp2
                go_roundw
                case rel =>
                  obtain ⟨hi1, hi2, hlen⟩ := unhide HX
                  have hbnd := unhide HLL
                  exact ⟨i1, by omega, rfl, (unhide HREL).1, L', luck', (unhide HREL).2, by omega⟩
                case measure => simpa [intOf] using hm1

            · have hge : decide (0 ≤ s) = true := decide_eq_true hs0
              have hge' : decide (s ≥ 0) = true := hge
              have hle : decide (s ≤ 1099511627776) = false := decide_eq_false hs1
              have hbad : s < 0 ∨ 1099511627776 < s := by omega
              clear hs0 hs1 hok
              have HOP := hide (put_arg hmsY.sk (kt, kr) v s hbad)
              have HK2 := hide koY
              clear hmsY koY hbad
              go_wp2_with (rw [unhide HY])
              refine (unhide HOP).mono ?_
              rintro e w' ⟨rfl, hbp⟩
              have HMZ : Hid (MS w' b0 sb mb L luck) := (unhide HMSY).below hbp
              have HKZ : Hid (w'.heap[bo]? = some (.cells #[.int .i64 d, .int .i32 kt, .int .i64 kr, .int .i64 v, .int .i64 s, .int .i32 tt, .int .i64 tr, .int .u64 sd, .int .i64 st] 34)) := (hbp.block bo (Array.getElem?_eq_some_iff.1 (unhide HK2)).1).trans (unhide HK2)
              have HBZ : Hid (Below b0 w3 w') := (unhide HBY).trans (hbp.mono (by have := unhide HSZ; omega))
              clear hbp q0 q1 q2 q3 q4 q5 q6 q7 q8 c0 c1 c2 c3 c4 c5 c6 c7 c8
              have HZ := hide (And.intro (unhide HMZ) (And.intro (unhide HKZ) (unhide HBZ)))
              have hkz0 := unhide HKZ
              have zc1 : w'.cell? ⟨bo, 1, none⟩ = some (.int .i32 kt) := cell_at hkz0
              have zc2 : w'.cell? ⟨bo, 2, none⟩ = some (.int .i64 kr) := cell_at hkz0
              clear hkz0
              have hms := unhide HMZ
              rcases ms_cases hms.sk (kt, kr) with ⟨n, r, hL, hR, hk⟩ | ⟨hR, hno⟩
              · have hL0 := trivial
                obtain ⟨np, nk, nv, ns, nh⟩ := n
                have hk' : nk = (kt, kr) := hk
                subst hk'
                have HGET := hide (get_has hms.sk (kt, kr) rfl hR rfl)
                clear hk hR hL0
                go_wp2_with fail
                refine (unhide HGET).mono ?_
                rintro e x1 ⟨rfl, hbx⟩
                obtain ⟨hms, hkz, hbz⟩ := unhide HZ
                have hms : MS w' b0 sb mb L luck := hms
                have hb1' : Below x1.heap.size x1 (x1.alloc (.cells #[.int .i32 kt, .int .i64 kr, .int .i64 nv, .int .i64 ns] 32)) := (Below.refl _ _).alloc (Nat.le_refl _) _
                have hbZ1 : Below w'.heap.size w' (x1.alloc (.cells #[.int .i32 kt, .int .i64 kr, .int .i64 nv, .int .i64 ns] 32)) := hbx.trans (hb1'.mono hbx.size)
                have hbZ2 : Below w'.heap.size w' ((x1.alloc (.cells #[.int .i32 kt, .int .i64 kr, .int .i64 nv, .int .i64 ns] 32)).alloc (.cells #[.int .i32 kt, .int .i64 kr, .int .i64 nv, .int .i64 ns] 32)) := hbZ1.alloc hbZ1.size _
                have hkb : bo < w'.heap.size := (Array.getElem?_eq_some_iff.1 hkz).1
                have hox : x1.heap[bo]? = some (.cells #[.int .i64 d, .int .i32 kt, .int .i64 kr, .int .i64 v, .int .i64 s, .int .i32 tt, .int .i64 tr, .int .u64 sd, .int .i64 st] 34) := (hbx.block bo hkb).trans hkz
                have o1 : x1.cell? ⟨bo, 1, none⟩ = some (.int .i32 kt) := cell_at hox
                have o2 : x1.cell? ⟨bo, 2, none⟩ = some (.int .i64 kr) := cell_at hox
                have oa1 : ∀ o : Obj, (x1.alloc o).cell? ⟨bo, 1, none⟩ = some (.int .i32 kt) := fun _ => cell_old o1
                have oa2 : ∀ o : Obj, (x1.alloc o).cell? ⟨bo, 2, none⟩ = some (.int .i64 kr) := fun _ => cell_old o2
                have hlook : (Instr.lookup 48 (.map (some mb)) (.agg #[.int .i32 kt, .int .i64 kr]) true).run Tryd.prog (x1.alloc (.cells #[.int .i32 kt, .int .i64 kr, .int .i64 nv, .int .i64 ns] 32)) = .ok (.tuple #[.agg #[.int .i32 kt, .int .i64 kr, .int .i64 nv, .int .i64 ns], .bool true]) (x1.alloc (.cells #[.int .i32 kt, .int .i64 kr, .int .i64 nv, .int .i64 ns] 32)) := look_has (hms.map.below hbZ1) hms.sk.rise hms.sk.ok (n := ⟨np, (kt, kr), nv, ns, nh⟩) (by rw [hL]; simp)
                have hneq : ∀ w, (binOp .neq 32 (.agg #[.int .i32 kt, .int .i64 kr, .int .i64 nv, .int .i64 ns]) (.agg #[.int .i32 kt, .int .i64 kr, .int .i64 nv, .int .i64 ns])).run Tryd.prog w = .ok (.bool false) w := fun w => by rw [neq_cell]; simp
                have HREL : Hid (Below b0 w3 ((x1.alloc (.cells #[.int .i32 kt, .int .i64 kr, .int .i64 nv, .int .i64 ns] 32)).alloc (.cells #[.int .i32 kt, .int .i64 kr, .int .i64 nv, .int .i64 ns] 32)) ∧ MS ((x1.alloc (.cells #[.int .i32 kt, .int .i64 kr, .int .i64 nv, .int .i64 ns] 32)).alloc (.cells #[.int .i32 kt, .int .i64 kr, .int .i64 nv, .int .i64 ns] 32)) b0 sb mb L luck) := ⟨hbz.trans (hbZ2.mono (by have := hms.size; omega)), hms.below hbZ2⟩
                clear hbx hms hkz hbz hb1' hbZ1 hbZ2 hkb hox o1 o2 hL zc1 zc2
                go_wp2
                go_roundw
                case rel =>
                  obtain ⟨hi1, hi2, hlen⟩ := unhide HX
                  have hbnd := trivial
                  exact ⟨i1, by omega, rfl, (unhide HREL).1, L, luck, (unhide HREL).2, by omega⟩
                case measure => simpa [intOf] using hm1

              · have hL0 := trivial
                have HGET := hide (get_no hms.sk (kt, kr) rfl rfl hR)
                clear hR hL0
                go_wp2_with fail
                refine (unhide HGET).mono ?_
                rintro e x1 ⟨rfl, hbx⟩
                obtain ⟨hms, hkz, hbz⟩ := unhide HZ
                have hms : MS w' b0 sb mb L luck := hms
                have hb1' : Below x1.heap.size x1 (x1.alloc (.cells #[.int .i32 0, .int .i64 0, .int .i64 0, .int .i64 0] 32)) := (Below.refl _ _).alloc (Nat.le_refl _) _
                have hbZ1 : Below w'.heap.size w' (x1.alloc (.cells #[.int .i32 0, .int .i64 0, .int .i64 0, .int .i64 0] 32)) := hbx.trans (hb1'.mono hbx.size)
                have hbZ2 : Below w'.heap.size w' ((x1.alloc (.cells #[.int .i32 0, .int .i64 0, .int .i64 0, .int .i64 0] 32)).alloc (.cells #[.int .i32 0, .int .i64 0, .int .i64 0, .int .i64 0] 32)) := hbZ1.alloc hbZ1.size _
                have hkb : bo < w'.heap.size := (Array.getElem?_eq_some_iff.1 hkz).1
                have hox : x1.heap[bo]? = some (.cells #[.int .i64 d, .int .i32 kt, .int .i64 kr, .int .i64 v, .int .i64 s, .int .i32 tt, .int .i64 tr, .int .u64 sd, .int .i64 st] 34) := (hbx.block bo hkb).trans hkz
                have o1 : x1.cell? ⟨bo, 1, none⟩ = some (.int .i32 kt) := cell_at hox
                have o2 : x1.cell? ⟨bo, 2, none⟩ = some (.int .i64 kr) := cell_at hox
                have oa1 : ∀ o : Obj, (x1.alloc o).cell? ⟨bo, 1, none⟩ = some (.int .i32 kt) := fun _ => cell_old o1
                have oa2 : ∀ o : Obj, (x1.alloc o).cell? ⟨bo, 2, none⟩ = some (.int .i64 kr) := fun _ => cell_old o2
                have hlook : (Instr.lookup 48 (.map (some mb)) (.agg #[.int .i32 kt, .int .i64 kr]) true).run Tryd.prog (x1.alloc (.cells #[.int .i32 0, .int .i64 0, .int .i64 0, .int .i64 0] 32)) = .ok (.tuple #[.agg #[.int .i32 0, .int .i64 0, .int .i64 0, .int .i64 0], .bool false]) (x1.alloc (.cells #[.int .i32 0, .int .i64 0, .int .i64 0, .int .i64 0] 32)) := look_no (hms.map.below hbZ1) hms.sk.ok (k := (kt, kr)) (unhide HIK) hno
                have hneq : ∀ w, (binOp .neq 32 (.agg #[.int .i32 0, .int .i64 0, .int .i64 0, .int .i64 0]) (.agg #[.int .i32 0, .int .i64 0, .int .i64 0, .int .i64 0])).run Tryd.prog w = .ok (.bool false) w := fun w => by rw [neq_cell]; simp
                have HREL : Hid (Below b0 w3 ((x1.alloc (.cells #[.int .i32 0, .int .i64 0, .int .i64 0, .int .i64 0] 32)).alloc (.cells #[.int .i32 0, .int .i64 0, .int .i64 0, .int .i64 0] 32)) ∧ MS ((x1.alloc (.cells #[.int .i32 0, .int .i64 0, .int .i64 0, .int .i64 0] 32)).alloc (.cells #[.int .i32 0, .int .i64 0, .int .i64 0, .int .i64 0] 32)) b0 sb mb L luck) := ⟨hbz.trans (hbZ2.mono (by have := hms.size; omega)), hms.below hbZ2⟩
                clear hbx hms hkz hbz hb1' hbZ1 hbZ2 hkb hox o1 o2 hno zc1 zc2
                go_wp2
                go_roundw
                case rel =>
                  obtain ⟨hi1, hi2, hlen⟩ := unhide HX
                  have hbnd := trivial
                  exact ⟨i1, by omega, rfl, (unhide HREL).1, L, luck, (unhide HREL).2, by omega⟩
                case measure => simpa [intOf] using hm1

          · have hge : decide (0 ≤ s) = false := decide_eq_false hs0
            have hge' : decide (s ≥ 0) = false := hge
            have hbad : s < 0 ∨ 1099511627776 < s := by omega
            clear hs0 hok
            have HOP := hide (put_arg hmsY.sk (kt, kr) v s hbad)
            have HK2 := hide koY
            clear hmsY koY hbad
            go_wp2_with (rw [unhide HY])
            refine (unhide HOP).mono ?_
            rintro e w' ⟨rfl, hbp⟩
            have HMZ : Hid (MS w' b0 sb mb L luck) := (unhide HMSY).below hbp
            have HKZ : Hid (w'.heap[bo]? = some (.cells #[.int .i64 d, .int .i32 kt, .int .i64 kr, .int .i64 v, .int .i64 s, .int .i32 tt, .int .i64 tr, .int .u64 sd, .int .i64 st] 34)) := (hbp.block bo (Array.getElem?_eq_some_iff.1 (unhide HK2)).1).trans (unhide HK2)
            have HBZ : Hid (Below b0 w3 w') := (unhide HBY).trans (hbp.mono (by have := unhide HSZ; omega))
            clear hbp q0 q1 q2 q3 q4 q5 q6 q7 q8 c0 c1 c2 c3 c4 c5 c6 c7 c8
            have HZ := hide (And.intro (unhide HMZ) (And.intro (unhide HKZ) (unhide HBZ)))
            have hkz0 := unhide HKZ
            have zc1 : w'.cell? ⟨bo, 1, none⟩ = some (.int .i32 kt) := cell_at hkz0
            have zc2 : w'.cell? ⟨bo, 2, none⟩ = some (.int .i64 kr) := cell_at hkz0
            clear hkz0
            have hms := unhide HMZ
            rcases ms_cases hms.sk (kt, kr) with ⟨n, r, hL, hR, hk⟩ | ⟨hR, hno⟩
            · have hL0 := trivial
              obtain ⟨np, nk, nv, ns, nh⟩ := n
              have hk' : nk = (kt, kr) := hk
              subst hk'
              have HGET := hide (get_has hms.sk (kt, kr) rfl hR rfl)
              clear hk hR hL0
              go_wp2_with fail
              refine (unhide HGET).mono ?_
              rintro e x1 ⟨rfl, hbx⟩
              obtain ⟨hms, hkz, hbz⟩ := unhide HZ
              have hms : MS w' b0 sb mb L luck := hms
              have hb1' : Below x1.heap.size x1 (x1.alloc (.cells #[.int .i32 kt, .int .i64 kr, .int .i64 nv, .int .i64 ns] 32)) := (Below.refl _ _).alloc (Nat.le_refl _) _
              have hbZ1 : Below w'.heap.size w' (x1.alloc (.cells #[.int .i32 kt, .int .i64 kr, .int .i64 nv, .int .i64 ns] 32)) := hbx.trans (hb1'.mono hbx.size)
              have hbZ2 : Below w'.heap.size w' ((x1.alloc (.cells #[.int .i32 kt, .int .i64 kr, .int .i64 nv, .int .i64 ns] 32)).alloc (.cells #[.int .i32 kt, .int .i64 kr, .int .i64 nv, .int .i64 ns] 32)) := hbZ1.alloc hbZ1.size _
              have hkb : bo < w'.heap.size := (Array.getElem?_eq_some_iff.1 hkz).1
              have hox : x1.heap[bo]? = some (.cells #[.int .i64 d, .int .i32 kt, .int .i64 kr, .int .i64 v, .int .i64 s, .int .i32 tt, .int .i64 tr, .int .u64 sd, .int .i64 st] 34) := (hbx.block bo hkb).trans hkz
              have o1 : x1.cell? ⟨bo, 1, none⟩ = some (.int .i32 kt) := cell_at hox
              have o2 : x1.cell? ⟨bo, 2, none⟩ = some (.int .i64 kr) := cell_at hox
              have oa1 : ∀ o : Obj, (x1.alloc o).cell? ⟨bo, 1, none⟩ = some (.int .i32 kt) := fun _ => cell_old o1
              have oa2 : ∀ o : Obj, (x1.alloc o).cell? ⟨bo, 2, none⟩ = some (.int .i64 kr) := fun _ => cell_old o2
              have hlook : (Instr.lookup 48 (.map (some mb)) (.agg #[.int .i32 kt, .int .i64 kr]) true).run Tryd.prog (x1.alloc (.cells #[.int .i32 kt, .int .i64 kr, .int .i64 nv, .int .i64 ns] 32)) = .ok (.tuple #[.agg #[.int .i32 kt, .int .i64 kr, .int .i64 nv, .int .i64 ns], .bool true]) (x1.alloc (.cells #[.int .i32 kt, .int .i64 kr, .int .i64 nv, .int .i64 ns] 32)) := look_has (hms.map.below hbZ1) hms.sk.rise hms.sk.ok (n := ⟨np, (kt, kr), nv, ns, nh⟩) (by rw [hL]; simp)
              have hneq : ∀ w, (binOp .neq 32 (.agg #[.int .i32 kt, .int .i64 kr, .int .i64 nv, .int .i64 ns]) (.agg #[.int .i32 kt, .int .i64 kr, .int .i64 nv, .int .i64 ns])).run Tryd.prog w = .ok (.bool false) w := fun w => by rw [neq_cell]; simp
              have HREL : Hid (Below b0 w3 ((x1.alloc (.cells #[.int .i32 kt, .int .i64 kr, .int .i64 nv, .int .i64 ns] 32)).alloc (.cells #[.int .i32 kt, .int .i64 kr, .int .i64 nv, .int .i64 ns] 32)) ∧ MS ((x1.alloc (.cells #[.int .i32 kt, .int .i64 kr, .int .i64 nv, .int .i64 ns] 32)).alloc (.cells #[.int .i32 kt, .int .i64 kr, .int .i64 nv, .int .i64 ns] 32)) b0 sb mb L luck) := ⟨hbz.trans (hbZ2.mono (by have := hms.size; omega)), hms.below hbZ2⟩
              clear hbx hms hkz hbz hb1' hbZ1 hbZ2 hkb hox o1 o2 hL zc1 zc2
              go_wp2
              go_roundw
              case rel =>
                obtain ⟨hi1, hi2, hlen⟩ := unhide HX
                have hbnd := trivial
                exact ⟨i1, by omega, rfl, (unhide HREL).1, L, luck, (unhide HREL).2, by omega⟩
              case measure => simpa [intOf] using hm1

            · have hL0 := trivial
              have HGET := hide (get_no hms.sk (kt, kr) rfl rfl hR)
              clear hR hL0
              go_wp2_with fail
              refine (unhide HGET).mono ?_
              rintro e x1 ⟨rfl, hbx⟩
              obtain ⟨hms, hkz, hbz⟩ := unhide HZ
              have hms : MS w' b0 sb mb L luck := hms
              have hb1' : Below x1.heap.size x1 (x1.alloc (.cells #[.int .i32 0, .int .i64 0, .int .i64 0, .int .i64 0] 32)) := (Below.refl _ _).alloc (Nat.le_refl _) _
              have hbZ1 : Below w'.heap.size w' (x1.alloc (.cells #[.int .i32 0, .int .i64 0, .int .i64 0, .int .i64 0] 32)) := hbx.trans (hb1'.mono hbx.size)
              have hbZ2 : Below w'.heap.size w' ((x1.alloc (.cells #[.int .i32 0, .int .i64 0, .int .i64 0, .int .i64 0] 32)).alloc (.cells #[.int .i32 0, .int .i64 0, .int .i64 0, .int .i64 0] 32)) := hbZ1.alloc hbZ1.size _
              have hkb : bo < w'.heap.size := (Array.getElem?_eq_some_iff.1 hkz).1
              have hox : x1.heap[bo]? = some (.cells #[.int .i64 d, .int .i32 kt, .int .i64 kr, .int .i64 v, .int .i64 s, .int .i32 tt, .int .i64 tr, .int .u64 sd, .int .i64 st] 34) := (hbx.block bo hkb).trans hkz
              have o1 : x1.cell? ⟨bo, 1, none⟩ = some (.int .i32 kt) := cell_at hox
              have o2 : x1.cell? ⟨bo, 2, none⟩ = some (.int .i64 kr) := cell_at hox
              have oa1 : ∀ o : Obj, (x1.alloc o).cell? ⟨bo, 1, none⟩ = some (.int .i32 kt) := fun _ => cell_old o1
              have oa2 : ∀ o : Obj, (x1.alloc o).cell? ⟨bo, 2, none⟩ = some (.int .i64 kr) := fun _ => cell_old o2
              have hlook : (Instr.lookup 48 (.map (some mb)) (.agg #[.int .i32 kt, .int .i64 kr]) true).run Tryd.prog (x1.alloc (.cells #[.int .i32 0, .int .i64 0, .int .i64 0, .int .i64 0] 32)) = .ok (.tuple #[.agg #[.int .i32 0, .int .i64 0, .int .i64 0, .int .i64 0], .bool false]) (x1.alloc (.cells #[.int .i32 0, .int .i64 0, .int .i64 0, .int .i64 0] 32)) := look_no (hms.map.below hbZ1) hms.sk.ok (k := (kt, kr)) (unhide HIK) hno
              have hneq : ∀ w, (binOp .neq 32 (.agg #[.int .i32 0, .int .i64 0, .int .i64 0, .int .i64 0]) (.agg #[.int .i32 0, .int .i64 0, .int .i64 0, .int .i64 0])).run Tryd.prog w = .ok (.bool false) w := fun w => by rw [neq_cell]; simp
              have HREL : Hid (Below b0 w3 ((x1.alloc (.cells #[.int .i32 0, .int .i64 0, .int .i64 0, .int .i64 0] 32)).alloc (.cells #[.int .i32 0, .int .i64 0, .int .i64 0, .int .i64 0] 32)) ∧ MS ((x1.alloc (.cells #[.int .i32 0, .int .i64 0, .int .i64 0, .int .i64 0] 32)).alloc (.cells #[.int .i32 0, .int .i64 0, .int .i64 0, .int .i64 0] 32)) b0 sb mb L luck) := ⟨hbz.trans (hbZ2.mono (by have := hms.size; omega)), hms.below hbZ2⟩
              clear hbx hms hkz hbz hb1' hbZ1 hbZ2 hkb hox o1 o2 hno zc1 zc2
              go_wp2
              go_roundw
              case rel =>
                obtain ⟨hi1, hi2, hlen⟩ := unhide HX
                have hbnd := trivial
                exact ⟨i1, by omega, rfl, (unhide HREL).1, L, luck, (unhide HREL).2, by omega⟩
              case measure => simpa [intOf] using hm1

      · obtain rfl : i = n := by omega
        have HLn := hide (len_any hs.sk)
        have hlen2 := fun ty => map_len hs.map ty
        have HRI := hide (rising_any hs.sk hs.map)
        obtain ⟨c, hc⟩ : ∃ c : Nat, L.length = c := ⟨_, rfl⟩
        rw [hc] at HLn
        simp only [hc] at hlen2
        have hlen3 := hlen2 3
        have heq : ((c : Int) == (c : Int)) = true := by simp
        have HBR := hide (And.intro hbr hs.size)
        clear hlt hi hbr hs hlen hc hlen2
        go_wp2_with fail
        refine (unhide HLn).mono ?_
        rintro e x3 ⟨rfl, rfl⟩
        go_wp2_with fail
        refine (unhide HRI).mono ?_
        rintro e x4 ⟨rfl, hb4⟩
        have HB4 := hide hb4
        clear hb4
        go_wp2
        go_ret
        exact ⟨rfl, (unhide HBW).trans ((unhide HBR).1.trans ((unhide HB4).mono (by have := (unhide HBR).2; omega)))⟩

end Go.Proofs.YtalecnfflcjkmaaDoor
