/- EvalWithin's walk. -/
import Derived.Test.YtldapckooohigaaDoorG3
import Derived.Test.YtldapckooohigaaDoorJN
import Derived.Test.YtldapckooohigaaDoorE36
namespace Go.Proofs.YtldapckooohigaaDoor
open Go.RowKit
set_option maxRecDepth 100000

theorem rsame_self {w : World} {R : Out} {nv nc : Nat} {a1 a2 a3 a4 : Option Addr} {c1 c2 c3 c4 : Nat} (h1 : SeesL nC 1 w (.slice a1 nv c1) R.vs) (h2 : SeesL chC 4 w (.slice a2 nc c2) R.cs) (h3 : SeesL nC 1 w (.slice a3 nv c3) R.vs) (h4 : SeesL chC 4 w (.slice a4 nc c4) R.cs) :
    Calls Tryd.prog 22 #[.agg #[.int .i64 R.en, .slice a1 nv c1, .slice a2 nc c2, .int .i64 R.st], .agg #[.int .i64 R.en, .slice a3 nv c3, .slice a4 nc c4, .int .i64 R.st]] w fun e w' => e = .returned (.bool true) ∧ Below w.heap.size w w' := by
  have h := rsame_any (a := R) (b := R) h1 h2 h3 h4
  rwa [sO_self] at h
theorem run_at {w : World} (hT : Tab w) (x : Tx) {cv av rv wv mv : Value} (hx : SeesX w x cv av rv wv) {m : List Pr} (hm : SeesL pC 3 w mv m) (hok : ∀ p ∈ m, OkK p.1) (hll : m.length ≤ 5864062014805) {R : Out} {nv nc : Nat} (ho : runP x m 4096 = R) (hv : R.vs.length = nv) (hc : R.cs.length = nc) :
    Calls Tryd.prog 23 #[.agg #[.int .i64 x.s, .int .i64 x.r, cv, av, rv, wv], mv, .int .i64 4096] w fun e w' => ∃ a1 c1 a2 c2, e = .returned (.agg #[.int .i64 R.en, .slice a1 nv c1, .slice a2 nc c2, .int .i64 R.st]) ∧ SeesL nC 1 w' (.slice a1 nv c1) R.vs ∧ SeesL chC 4 w' (.slice a2 nc c2) R.cs ∧ Below w.heap.size w w' := by
  subst hv; subst hc
  exact run_sees hT x hx hm hok hll 4096 ho
theorem has_from {z : World} {v : Value} {l : List Ky} (hs : SeesL kC 2 z v l) {a b : Int} {r : Bool} (hr : decide ((a, b) ∈ l) = r) {y : World} (hb : Below z.heap.size z y) : Calls Tryd.prog 24 #[v, .agg #[.int .i32 a, .int .i64 b]] y fun e w' => e = .returned (.bool r) ∧ Below z.heap.size z w' := by
  subst hr
  exact (contains_any (hs.below kC_len hb) a b).mono fun _ _ ⟨h1, h2⟩ => ⟨h1, hb.trans (h2.below.mono hb.size)⟩

set_option maxHeartbeats 16000000 in
theorem evalWithin_walk {w : World} (hT : Tab w) (x : Tx) {cv av rv wv mv ov : Value} (hx : SeesX w x cv av rv wv) {m o : List Pr} (hm : SeesL pC 3 w mv m) (okm : ∀ p ∈ m, OkK p.1) (ho : SeesL pC 3 w ov o) (oko : ∀ p ∈ o, OkK p.1) (lm : m.length ≤ 1048576) (lo : o.length ≤ 1048576) :
    Calls Tryd.prog 7 #[.agg #[.int .i64 x.s, .int .i64 x.r, cv, av, rv, wv], mv, ov] w fun e w' => e = .returned (.bool true) ∧ Below w.heap.size w w' := by
  obtain ⟨w1, hw1⟩ : ∃ y, w.alloc (.cells #[.int .i64 x.s, .int .i64 x.r, cv, av, rv, wv] 35) = y := ⟨_, rfl⟩
  have hb1 : Below w.heap.size w w1 := hw1 ▸ below_box _
  have hx1 : w1.heap[w.heap.size]? = some (.cells #[.int .i64 x.s, .int .i64 x.r, cv, av, rv, wv] 35) := hw1 ▸ heap_alloc_new w _
  have hz1 : w1.heap.size = w.heap.size + 1 := by rw [← hw1]; simp
  have HC : Hid (∀ z, Below w1.heap.size w1 z → z.cell? ⟨w.heap.size, 0, none⟩ = some (.int .i64 x.s) ∧ z.cell? ⟨w.heap.size, 1, none⟩ = some (.int .i64 x.r) ∧ z.cell? ⟨w.heap.size, 2, none⟩ = some cv ∧ z.cell? ⟨w.heap.size, 3, none⟩ = some av ∧ z.cell? ⟨w.heap.size, 4, none⟩ = some rv ∧ z.cell? ⟨w.heap.size, 5, none⟩ = some wv) := fun z hz => by
    have hxz : z.heap[w.heap.size]? = some (.cells #[.int .i64 x.s, .int .i64 x.r, cv, av, rv, wv] 35) := (hz.block _ (by omega)).trans hx1
    exact ⟨cell_at hxz, cell_at hxz, cell_at hxz, cell_at hxz, cell_at hxz, cell_at hxz⟩
  obtain ⟨R, hR⟩ : ∃ R, runP x m 4096 = R := ⟨_, rfl⟩
  obtain ⟨nv, hnv⟩ : ∃ n, R.vs.length = n := ⟨_, rfl⟩
  obtain ⟨nc, hnc⟩ : ∃ n, R.cs.length = n := ⟨_, rfl⟩
  have hkeys := runP_keys x hx.byt m 4096
  rw [hR] at hkeys
  have HKY := hide hkeys
  have HNC := hide hnc
  have HNV := hide hnv
  have b0 : ∀ z, Below w1.heap.size w1 z → Below w.heap.size w z := fun z hz => hb1.trans (hz.mono hb1.size)
  have HBG : Hid (∀ z, Below w1.heap.size w1 z → Calls Tryd.prog 10 #[] z fun e w' => e = .returned (.bool true) ∧ Below z.heap.size z w') := fun z hz => begun_any (hT.below (b0 z hz) hT.pos)
  have HTX : Hid (∀ z, Below w1.heap.size w1 z → Tab z ∧ SeesX z x cv av rv wv ∧ SeesL pC 3 z mv m ∧ SeesL pC 3 z ov o) := fun z hz => ⟨hT.below (b0 z hz) hT.pos, hx.below (b0 z hz), hm.below pC_len (b0 z hz), ho.below pC_len (b0 z hz)⟩
  have HR1 : Hid (∀ z, Below w1.heap.size w1 z → Calls Tryd.prog 23 #[.agg #[.int .i64 x.s, .int .i64 x.r, cv, av, rv, wv], mv, .int .i64 4096] z fun e w' => ∃ a1 c1 a2 c2, e = .returned (.agg #[.int .i64 R.en, .slice a1 nv c1, .slice a2 nc c2, .int .i64 R.st]) ∧ SeesL nC 1 w' (.slice a1 nv c1) R.vs ∧ SeesL chC 4 w' (.slice a2 nc c2) R.cs ∧ Below z.heap.size z w') := fun z hz => run_at (unhide HTX z hz).1 x (unhide HTX z hz).2.1 (unhide HTX z hz).2.2.1 okm (by omega) hR hnv hnc
  have HOM := hide okm
  have HOO := hide oko
  have HRR := hide hR
  have HLM := hide lm
  have HCK : Hid (∀ z, Below w1.heap.size w1 z → Calls Tryd.prog 27 #[.agg #[.int .i64 x.s, .int .i64 x.r, cv, av, rv, wv]] z fun e w' => e = .returned (.int .i64 (chkP x)) ∧ Below z.heap.size z w') := fun z hz => check_tx (unhide HTX z hz).1 (unhide HTX z hz).2.1
  have HEN : Hid (chkP x ≠ 0 → R.en = 1) := fun h => by rw [← hR]; exact runP_code x m 4096 h
  obtain ⟨C, hC⟩ : ∃ C, chkP x = C := ⟨_, rfl⟩
  rw [hC] at HCK HEN
  obtain ⟨oa, oc, _, _, hov, hocap, homax, -⟩ := SeesL.pair ho
  obtain ⟨n, hn⟩ : ∃ n, o.length = n := ⟨_, rfl⟩
  rw [hn] at hov hocap homax lo
  subst hov
  have HN := hide hn
  have HW := hide hw1
  have HB1 := hide hb1
  clear hw1 hb1 hx1 hz1 hR hnv hnc hkeys b0 hT hx hm okm ho oko lm hC hn
  go_enter Tryd.func7, Tryd.ntmps7
  go_wp2_with (first | (rw [unhide HW]) | (go_at_call 10; have HQ := unhide HBG w1 (Below.refl _ _); refine Calls.mono HQ ?_; clear HQ; rintro e w2 ⟨rfl, hb2⟩; have HB2 := hide hb2; obtain ⟨d0, d1, d2, d3, d4, d5⟩ := unhide HC w2 hb2; clear hb2) | (go_at_call 23; have HQ := unhide HR1 w2 (unhide HB2); refine Calls.mono HQ ?_; clear HQ; rintro e z1 ⟨p1, q1, p2, q2, rfl, s1, s2, hz⟩; have HZ1 := hide hz; have HS1 := hide s1; have HS2 := hide s2; clear s1 s2 hz))
  clear d0 d1 d2 d3 d4 d5
  obtain ⟨wA, hA⟩ : ∃ y, z1.alloc (.cells #[.int .i64 R.en, .slice p1 nv q1, .slice p2 nc q2, .int .i64 R.st] 51) = y := ⟨_, rfl⟩
  rw [hA]
  have hzA : Below w2.heap.size w2 wA := hA ▸ (unhide HZ1).alloc (unhide HZ1).size _
  have hAA : Below w1.heap.size w1 wA := (unhide HB2).trans (hzA.mono (unhide HB2).size)
  have h1A : Below z1.heap.size z1 wA := hA ▸ below_box _
  have HX4 : Hid (∀ z, Below wA.heap.size wA z → (z.cell? ⟨z1.heap.size, 0, none⟩ = some (.int .i64 R.en) ∧ z.cell? ⟨z1.heap.size, 1, none⟩ = some (.slice p1 nv q1) ∧ z.cell? ⟨z1.heap.size, 2, none⟩ = some (.slice p2 nc q2) ∧ z.cell? ⟨z1.heap.size, 3, none⟩ = some (.int .i64 R.st)) ∧ SeesL nC 1 z (.slice p1 nv q1) R.vs ∧ SeesL chC 4 z (.slice p2 nc q2) R.cs) := fun z hz => by
    refine ⟨?_, (unhide HS1).below nC_len (h1A.trans (hz.mono h1A.size)), (unhide HS2).below chC_len (h1A.trans (hz.mono h1A.size))⟩
    rw [← hA] at hz
    exact box4 hz
  have HAA := hide hAA
  have HOV : Hid (∀ z, Below wA.heap.size wA z → SeesL pC 3 z (.slice oa n oc) o) := fun z hz => (unhide HTX z (hAA.trans (hz.mono hAA.size))).2.2.2
  have HC6 : Hid (∀ z, Below wA.heap.size wA z → z.cell? ⟨w.heap.size, 0, none⟩ = some (.int .i64 x.s) ∧ z.cell? ⟨w.heap.size, 1, none⟩ = some (.int .i64 x.r) ∧ z.cell? ⟨w.heap.size, 2, none⟩ = some cv ∧ z.cell? ⟨w.heap.size, 3, none⟩ = some av ∧ z.cell? ⟨w.heap.size, 4, none⟩ = some rv ∧ z.cell? ⟨w.heap.size, 5, none⟩ = some wv) := fun z hz => unhide HC z (hAA.trans (hz.mono hAA.size))
  clear hA hzA hAA h1A HS1 HS2 HZ1 HB2 HC
  go_loopw [8, 20] (fun ot c wr => ∃ t : Nat, t ≤ n ∧ c = .int .i64 t ∧ wr.ownsRow wA.heap.size 45 3 ot (othP x.rs (o.take t)).length ((othP x.rs (o.take t)).flatMap pC) ∧ Below wA.heap.size wA wr) (fun _ c _ => n - (intOf c).toNat)
  case atStart => exact ⟨0, by omega, rfl, own_nil _ _ _ _, Below.refl _ _⟩
  case round =>
    obtain ⟨t, ht, rfl, hown, hbl⟩ := hrel
    have HBL := hide hbl
    obtain ⟨xv, xc, hxv⟩ := own_shape hown
    subst hxv
    by_cases hlt : t < n
    · have hnl := unhide HN
      have htl : t < o.length := by omega
      obtain ⟨gb, ob, hao, -, hcx⟩ := pair_cells (unhide HOV wr hbl) rfl htl
      subst hao
      obtain ⟨⟨⟨a, b⟩, c⟩, hx⟩ : ∃ k, o.getD t default = k := ⟨_, rfl⟩
      have hx' : o[t] = ((a, b), c) := by rw [← hx]; simp [List.getD, htl]
      rw [hx] at hcx
      obtain ⟨s1, s2, s3⟩ := hcx wr (Below.refl _ _)
      have hne : othP x.rs (o.take (t + 1)) = if (a, b) ∈ x.rs then othP x.rs (o.take t) else othP x.rs (o.take t) ++ [((a, b), c)] := by
        rw [List.take_succ_eq_append_getElem htl, othP_snoc, hx']
      have hlo : (othP x.rs (o.take t)).length ≤ t := Nat.le_trans (othP_len _ _) (by simp; omega)
      obtain ⟨rq, hr⟩ : ∃ rq, decide ((a, b) ∈ x.rs) = rq := ⟨_, rfl⟩
      obtain ⟨y1, hy1⟩ : ∃ y, wr.alloc (.cells #[.int .i32 a, .int .i64 b, .int .i64 c] 45) = y := ⟨_, rfl⟩
      have bq : Below wr.heap.size wr y1 := hy1 ▸ below_box _
      have x1 : y1.heap[wr.heap.size]? = some (.cells #[.int .i32 a, .int .i64 b, .int .i64 c] 45) := by rw [← hy1]; exact heap_alloc_new wr _
      have bA1 : Below wA.heap.size wA y1 := hbl.trans (bq.mono hbl.size)
      have e4 := (unhide HC6 y1 bA1).2.2.2.2.1
      have k0 : y1.cell? ⟨wr.heap.size, 0, none⟩ = some (.int .i32 a) := cell_at x1
      have k1 : y1.cell? ⟨wr.heap.size, 1, none⟩ = some (.int .i64 b) := cell_at x1
      have HCB : Hid (∀ z, Below y1.heap.size y1 z → z.cell? ⟨wr.heap.size, 0, none⟩ = some (.int .i32 a) ∧ z.cell? ⟨wr.heap.size, 1, none⟩ = some (.int .i64 b) ∧ z.cell? ⟨wr.heap.size, 2, none⟩ = some (.int .i64 c)) := fun z hz => by
        have hxz := (hz.block _ (by rw [← hy1]; simp)).trans x1
        exact ⟨cell_at hxz, cell_at hxz, cell_at hxz⟩
      have HHF : Hid (Calls Tryd.prog 24 #[rv, .agg #[.int .i32 a, .int .i64 b]] y1 fun e w' => e = .returned (.bool rq) ∧ Below y1.heap.size y1 w') := has_from (unhide HTX y1 ((unhide HAA).trans (bA1.mono (unhide HAA).size))).2.1.rs hr (Below.refl _ _)
      have HOW : Hid (y1.ownsRow wA.heap.size 45 3 (.slice xv (othP x.rs (o.take t)).length xc) (othP x.rs (o.take t)).length ((othP x.rs (o.take t)).flatMap pC)) := own_below hown bq
      have HBA := hide bA1
      have HY := hide hy1
      obtain ⟨L, hL⟩ : ∃ L, othP x.rs (o.take t) = L := ⟨_, rfl⟩
      rw [hL] at hne hlo HOW
      obtain ⟨k, hk⟩ : ∃ k, L.length = k := ⟨_, rfl⟩
      have HNE := hide hne
      have HK := hide hk
      rw [hL, hk]
      rw [hk] at hlo
      clear hnl htl hx hx' hcx hne hown hbl hL hk bq x1 bA1 hy1
      cases rq with
      | true =>
        have HI := hide (of_decide_eq_true hr)
        clear hr
        go_wp2_with (first | rw [unhide HY] | (go_at_call 24; refine Calls.mono (unhide HHF) ?_; rintro e wq ⟨rfl, hq⟩; have HQB := hide hq; clear hq))
        go_roundw
        case rel =>
          have h0 := unhide HBA
          refine ⟨t + 1, by omega, by go_num, ?_, h0.trans ((unhide HQB).mono h0.size)⟩
          rw [unhide HNE, if_pos (unhide HI), unhide HK]
          have ho := own_below (unhide HOW) (unhide HQB)
          rw [unhide HK] at ho
          exact ho
        case measure => simp [intOf]; omega
      | false =>
        have HI := hide (of_decide_eq_false hr)
        clear hr
        go_wp2_with (first | rw [unhide HY] | (go_at_call 24; refine Calls.mono (unhide HHF) ?_; rintro e wq ⟨rfl, hq⟩; have HQB := hide hq; obtain ⟨v0, v1, v2⟩ := unhide HCB _ hq; obtain ⟨W2, hW2⟩ : ∃ y, wq.alloc (.cells #[.int .i32 a, .int .i64 b, .int .i64 c] 45) = y := ⟨_, rfl⟩; have HW2 := hide hW2; have hbA := unhide HBA; have hqA : Below wA.heap.size wA wq := hbA.trans (hq.mono hbA.size); obtain ⟨a3, c3, y5, r2, ho5, hb5⟩ := app_pairs 29 (own_below (own_below (unhide HOW) hq) (below_box (.cells #[.int .i32 a, .int .i64 b, .int .i64 c] 45))) (sees_oneP wq ((a, b), c)) (by have := unhide HK; simp only [List.length_cons, List.length_nil]; omega) (hqA.alloc hqA.size _).size; have HR5 : Hid (y5.ownsRow wA.heap.size 45 3 (.slice a3 (L.length + 1) c3) (othP x.rs (o.take (t + 1))).length ((othP x.rs (o.take (t + 1))).flatMap pC) ∧ Below wA.heap.size wA y5) := (by rw [unhide HNE, if_neg (unhide HI)]; exact ⟨by simpa using ho5, (hqA.alloc hqA.size _).trans hb5⟩); rw [unhide HK] at HR5; have r3 : (Builtin.append_ #[29, 29] 29 #[.slice xv k xc, .slice (some ⟨wq.heap.size, 0, none⟩) 1 1]).run Tryd.prog W2 = .ok (.slice a3 (k + 1) c3) y5 := (by rw [← unhide HK, ← hW2]; exact r2); have HR2 := hide r3; clear hq hbA hqA r2 r3 ho5 hb5 hW2) | rw [unhide HW2] | (refine wpList_append_wanted (by rfl) _ _ 29 rfl rfl rfl (unhide HR2) ?_))
        go_roundw
        case rel => exact ⟨t + 1, by omega, by go_num, (unhide HR5).1, (unhide HR5).2⟩
        case measure => simp [intOf]; omega
    · obtain rfl : t = n := by omega
      have hnl := unhide HN
      rw [List.take_of_length_le (by omega)] at hown
      rw [List.take_of_length_le (by omega)]
      obtain ⟨O, hO⟩ : ∃ O, othP x.rs o = O := ⟨_, rfl⟩
      have hlO : O.length ≤ 1048576 := hO ▸ Nat.le_trans (othP_len _ _) (by omega)
      have hRO : runP x (m ++ O) 4096 = R := by rw [← hO, runP_oth]; exact unhide HRR
      have okO : ∀ p ∈ m ++ O, OkK p.1 := fun p hp => by
        rcases List.mem_append.1 hp with h1 | h1
        · exact unhide HOM p h1
        · rw [← hO] at h1
          exact unhide HOO p (List.mem_filter.1 h1).1
      rw [hO] at hown
      rw [hO]
      obtain ⟨kO, hkO⟩ : ∃ k, O.length = k := ⟨_, rfl⟩
      rw [hkO] at hown hlO
      rw [hkO]
      have hsO := (own_sees pC_len (by decide) hown).2
      have HSO : Hid (∀ z, Below wr.heap.size wr z → SeesL pC 3 z (.slice xv kO xc) O) := fun z hz => hsO.below pC_len hz
      have HUP : Hid (∀ z, Below wr.heap.size wr z → Below wA.heap.size wA z) := fun z hz => hbl.trans (hz.mono hbl.size)
      have HU1 : Hid (∀ z, Below wr.heap.size wr z → Below w1.heap.size w1 z) := fun z hz => (unhide HAA).trans ((unhide HUP z hz).mono (unhide HAA).size)
      have HCL : Hid (∀ z, Below wr.heap.size wr z → Calls Tryd.prog 25 #[mv] z fun e w' => ∃ r, e = .returned r ∧ w'.ownsRow z.heap.size 45 3 r m.length (m.flatMap pC) ∧ Below z.heap.size z w') := fun z hz => clone_prs (unhide HTX z (unhide HU1 z hz)).2.2.1 (by have := unhide HLM; omega)
      have HRN : Hid (∀ z, Below wr.heap.size wr z → ∀ v, SeesL pC 3 z v (m ++ O) → Calls Tryd.prog 23 #[.agg #[.int .i64 x.s, .int .i64 x.r, cv, av, rv, wv], v, .int .i64 4096] z fun e w' => ∃ a1 c1 a2 c2, e = .returned (.agg #[.int .i64 R.en, .slice a1 nv c1, .slice a2 nc c2, .int .i64 R.st]) ∧ SeesL nC 1 w' (.slice a1 nv c1) R.vs ∧ SeesL chC 4 w' (.slice a2 nc c2) R.cs ∧ Below z.heap.size z w') := fun z hz v hv => run_at (unhide HTX z (unhide HU1 z hz)).1 x (unhide HTX z (unhide HU1 z hz)).2.1 hv okO (by have := unhide HLM; rw [List.length_append, hkO]; omega) hRO (unhide HNV) (unhide HNC)
      obtain ⟨D, hD⟩ : ∃ D, srtP (nedP x.rs m) = D := ⟨_, rfl⟩
      have hRD : runP x D 4096 = R := by rw [← hD, runP_ned]; exact unhide HRR
      have hlD : D.length ≤ 1048576 := hD ▸ Nat.le_trans (srtP_spec _).2.2 (Nat.le_trans (nedP_len _ _) (unhide HLM))
      have okD : ∀ p ∈ D, OkK p.1 := fun p hp => by
        rw [← hD, ← ned_srt] at hp
        exact (unhide HTX wr (unhide HU1 wr (Below.refl _ _))).2.1.okr _ (of_decide_eq_true (List.mem_filter.1 hp).2)
      have HND : Hid (∀ z, Below wr.heap.size wr z → Calls Tryd.prog 19 #[.agg #[.int .i64 x.s, .int .i64 x.r, cv, av, rv, wv], mv] z fun e w' => ∃ r, e = .returned r ∧ SeesL pC 3 w' r D ∧ Below z.heap.size z w') := fun z hz => by
        have q := unhide HTX z (unhide HU1 z hz)
        refine (needs_any q.2.1.rs q.2.1.okr q.2.2.1 (unhide HOM) (by have := unhide HLM; omega)).mono fun e w' ⟨r, h1, h2, h3⟩ => ⟨r, h1, ?_, h3⟩
        rw [hD] at h2
        exact (own_sees pC_len (by decide) h2).2
      have HRD : Hid (∀ z, Below wr.heap.size wr z → ∀ v, SeesL pC 3 z v D → Calls Tryd.prog 23 #[.agg #[.int .i64 x.s, .int .i64 x.r, cv, av, rv, wv], v, .int .i64 4096] z fun e w' => ∃ a1 c1 a2 c2, e = .returned (.agg #[.int .i64 R.en, .slice a1 nv c1, .slice a2 nc c2, .int .i64 R.st]) ∧ SeesL nC 1 w' (.slice a1 nv c1) R.vs ∧ SeesL chC 4 w' (.slice a2 nc c2) R.cs ∧ Below z.heap.size z w') := fun z hz v hv => run_at (unhide HTX z (unhide HU1 z hz)).1 x (unhide HTX z (unhide HU1 z hz)).2.1 hv okD (by omega) hRD (unhide HNV) (unhide HNC)
      have HSV : Hid (∀ z, Below wr.heap.size wr z → SeesL nC 1 z (.slice p1 nv q1) R.vs ∧ SeesL chC 4 z (.slice p2 nc q2) R.cs) := fun z hz => (unhide HX4 z (unhide HUP z hz)).2
      have HX : Hid (∀ z, Below wr.heap.size wr z → z.cell? ⟨z1.heap.size, 0, none⟩ = some (.int .i64 R.en) ∧ z.cell? ⟨z1.heap.size, 1, none⟩ = some (.slice p1 nv q1) ∧ z.cell? ⟨z1.heap.size, 2, none⟩ = some (.slice p2 nc q2) ∧ z.cell? ⟨z1.heap.size, 3, none⟩ = some (.int .i64 R.st)) := fun z hz => (unhide HX4 z (unhide HUP z hz)).1
      have HT6 : Hid (∀ z, Below wr.heap.size wr z → z.cell? ⟨w.heap.size, 0, none⟩ = some (.int .i64 x.s) ∧ z.cell? ⟨w.heap.size, 1, none⟩ = some (.int .i64 x.r) ∧ z.cell? ⟨w.heap.size, 2, none⟩ = some cv ∧ z.cell? ⟨w.heap.size, 3, none⟩ = some av ∧ z.cell? ⟨w.heap.size, 4, none⟩ = some rv ∧ z.cell? ⟨w.heap.size, 5, none⟩ = some wv) := fun z hz => unhide HC6 z (unhide HUP z hz)
      have HKO := hide hkO
      have HLO := hide hlO
      clear hnl hown hO hlO hRO okO hkO hsO hbl hD hRD hlD okD ht
      go_wp2_with fail
      refine wp_region_held_drew (S := fun y => Below wr.heap.size wr y) (by kernel_rfl) (Below.refl _ _).drew (fun hHeld => ?_)
      have t0 : Below wr.heap.size wr wr.drew := (Below.refl _ _).drew
      refine wpAnyH_take (i := 0) (v := (.agg #[.int .i64 R.en, .slice p1 nv q1, .slice p2 nc q2, .int .i64 R.st])) rfl (by as_aux_lemma => kernel_rfl) (by as_aux_lemma => kernel_rfl) (by as_aux_lemma => kernel_rfl) (fun _ _ _ h => h) (Or.inl ⟨by rfl, ?hy1x0⟩) (by assumption) ?rest1x0
      case hy1x0 => intro w hSw; obtain ⟨s0, s1, s2, s3⟩ := unhide HX _ hSw; go_simp <;> with_reducible rfl
      simp only [Act.put, List.getElem_toArray, List.getElem_cons_zero, List.setIfInBounds_toArray, List.set_cons_zero, List.set_cons_succ]
      refine wpAnyH_take (i := 1) (v := (.agg #[.int .i64 x.s, .int .i64 x.r, cv, av, rv, wv])) rfl (by as_aux_lemma => kernel_rfl) (by as_aux_lemma => kernel_rfl) (by as_aux_lemma => kernel_rfl) (fun _ _ _ h => h) (Or.inl ⟨by rfl, ?hy2x1⟩) (by assumption) ?rest2x1
      case hy2x1 => intro w hSw; obtain ⟨d0, d1, d2, d3, d4, d5⟩ := unhide HT6 _ hSw; go_simp <;> with_reducible rfl
      simp only [Act.put, List.getElem_toArray, List.getElem_cons_zero, List.getElem_cons_succ, List.setIfInBounds_toArray, List.set_cons_zero, List.set_cons_succ]
      refine wpAnyH_take (i := 2) (v := ?v3x2) rfl (by as_aux_lemma => kernel_rfl) (by as_aux_lemma => kernel_rfl) (by as_aux_lemma => kernel_rfl) (fun _ _ _ h => h) (Or.inl ⟨by rfl, ?hy3x2⟩) (by assumption) ?rest3x2
      case hy3x2 => intro w hSw; go_simp <;> with_reducible rfl
      simp only [Act.put, List.getElem_toArray, List.getElem_cons_zero, List.getElem_cons_succ, List.setIfInBounds_toArray, List.set_cons_zero, List.set_cons_succ]
      refine wpAnyH_take (i := 4) (v := ?v4x4) rfl (by as_aux_lemma => kernel_rfl) (by as_aux_lemma => kernel_rfl) (by as_aux_lemma => kernel_rfl) (fun _ _ _ h => h) (Or.inl ⟨by rfl, ?hy4x4⟩) (by assumption) ?rest4x4
      case hy4x4 => intro w hSw; go_simp <;> with_reducible rfl
      simp only [Act.put, List.getElem_toArray, List.getElem_cons_zero, List.getElem_cons_succ, List.setIfInBounds_toArray, List.set_cons_zero, List.set_cons_succ]
      refine wpAnyH_ready (rs := [3]) (by as_aux_lemma => kernel_rfl) (by simp) ?_
      refine AllReadyH.cons rfl (fun K hK => ?_) AllReadyH.nil
      go_simp
      refine (unhide HCL _ t0).mono ?_
      rintro e c1 ⟨r, rfl, ho1, hb1⟩
      refine hK _ _ (t0.trans (hb1.mono t0.size)) ?_
      clear hK hHeld
      have t1 : Below wr.heap.size wr c1 := t0.trans (hb1.mono t0.size)
      intro hHeld
      obtain ⟨a3, c3, y5, r2, ho5, hb5⟩ := app_pairs 29 ho1 (unhide HSO _ t1) (by have := unhide HKO; have := unhide HLO; have := unhide HLM; omega) hb1.size
      rw [unhide HKO] at r2 ho5
      have t5 : Below wr.heap.size wr y5 := t1.trans (hb5.mono t0.size)
      have se5 : SeesL pC 3 y5 (.slice a3 (m.length + kO) c3) (m ++ O) := (own_sees pC_len (by decide) ho5).2
      refine wpAnyH_ready (rs := [5]) (by as_aux_lemma => kernel_rfl) (by simp) ?_
      refine AllReadyH.cons rfl (fun K hK => ?_) AllReadyH.nil
      rw [if_pos (by rfl)]
      refine append_upon rfl rfl rfl r2 ?_
      simp only [Act.put, List.getElem_toArray, List.getElem_cons_zero, List.getElem_cons_succ, List.setIfInBounds_toArray, List.set_cons_zero, List.set_cons_succ]
      refine hK _ _ t5 ?_
      clear hK hHeld
      intro hHeld
      refine wpAnyH_ready (rs := [6]) (by as_aux_lemma => kernel_rfl) (by simp) ?_
      refine AllReadyH.cons rfl (fun K hK => ?_) AllReadyH.nil
      go_simp
      refine (unhide HRN _ t5 _ se5).mono ?_
      rintro e c6 ⟨b1, e1, b2, e2, rfl, sv1, sh1, hb6⟩
      refine hK _ _ (t5.trans (hb6.mono t5.size)) ?_
      clear hK hHeld
      have t6 : Below wr.heap.size wr c6 := t5.trans (hb6.mono t5.size)
      intro hHeld
      have sR6 := unhide HSV _ t6
      refine wpAnyH_ready (rs := [7]) (by as_aux_lemma => kernel_rfl) (by simp) ?_
      refine AllReadyH.cons rfl (fun K hK => ?_) AllReadyH.nil
      go_simp
      refine (rsame_self sR6.1 sR6.2 sv1 sh1).mono ?_
      rintro e c7 ⟨rfl, hb7⟩
      refine hK _ _ (t6.trans (hb7.mono t6.size)) ?_
      clear hK hHeld
      have t7 : Below wr.heap.size wr c7 := t6.trans (hb7.mono t6.size)
      intro hHeld
      refine wpAnyH_take (i := 8) (v := ?v5x8) rfl (by as_aux_lemma => kernel_rfl) (by as_aux_lemma => kernel_rfl) (by as_aux_lemma => kernel_rfl) (fun _ _ _ h => h) (Or.inl ⟨by rfl, ?hy5x8⟩) (by assumption) ?rest5x8
      case hy5x8 => intro w hSw; go_simp <;> with_reducible rfl
      simp only [Act.put, List.getElem_toArray, List.getElem_cons_zero, List.getElem_cons_succ, List.setIfInBounds_toArray, List.set_cons_zero, List.set_cons_succ]
      refine wpAnyH_take (i := 9) (v := ?v6x9) rfl (by as_aux_lemma => kernel_rfl) (by as_aux_lemma => kernel_rfl) (by as_aux_lemma => kernel_rfl) (fun _ _ _ h => h) (Or.inl ⟨by rfl, ?hy6x9⟩) (by assumption) ?rest6x9
      case hy6x9 => intro w hSw; go_simp <;> with_reducible rfl
      simp only [Act.put, List.getElem_toArray, List.getElem_cons_zero, List.getElem_cons_succ, List.setIfInBounds_toArray, List.set_cons_zero, List.set_cons_succ]
      refine wpAnyH_take (i := 10) (v := (.agg #[.int .i64 R.en, .slice p1 nv q1, .slice p2 nc q2, .int .i64 R.st])) rfl (by as_aux_lemma => kernel_rfl) (by as_aux_lemma => kernel_rfl) (by as_aux_lemma => kernel_rfl) (fun _ _ _ h => h) (Or.inl ⟨by rfl, ?hy7x10⟩) (by assumption) ?rest7x10
      case hy7x10 => intro w hSw; obtain ⟨s0, s1, s2, s3⟩ := unhide HX _ hSw; go_simp <;> with_reducible rfl
      simp only [Act.put, List.getElem_toArray, List.getElem_cons_zero, List.getElem_cons_succ, List.setIfInBounds_toArray, List.set_cons_zero, List.set_cons_succ]
      refine wpAnyH_take (i := 11) (v := (.agg #[.int .i64 x.s, .int .i64 x.r, cv, av, rv, wv])) rfl (by as_aux_lemma => kernel_rfl) (by as_aux_lemma => kernel_rfl) (by as_aux_lemma => kernel_rfl) (fun _ _ _ h => h) (Or.inl ⟨by rfl, ?hy8x11⟩) (by assumption) ?rest8x11
      case hy8x11 => intro w hSw; obtain ⟨d0, d1, d2, d3, d4, d5⟩ := unhide HT6 _ hSw; go_simp <;> with_reducible rfl
      simp only [Act.put, List.getElem_toArray, List.getElem_cons_zero, List.getElem_cons_succ, List.setIfInBounds_toArray, List.set_cons_zero, List.set_cons_succ]
      refine wpAnyH_take (i := 12) (v := (.agg #[.int .i64 x.s, .int .i64 x.r, cv, av, rv, wv])) rfl (by as_aux_lemma => kernel_rfl) (by as_aux_lemma => kernel_rfl) (by as_aux_lemma => kernel_rfl) (fun _ _ _ h => h) (Or.inl ⟨by rfl, ?hy9x12⟩) (by assumption) ?rest9x12
      case hy9x12 => intro w hSw; obtain ⟨d0, d1, d2, d3, d4, d5⟩ := unhide HT6 _ hSw; go_simp <;> with_reducible rfl
      simp only [Act.put, List.getElem_toArray, List.getElem_cons_zero, List.getElem_cons_succ, List.setIfInBounds_toArray, List.set_cons_zero, List.set_cons_succ]
      refine wpAnyH_take (i := 13) (v := ?v10x13) rfl (by as_aux_lemma => kernel_rfl) (by as_aux_lemma => kernel_rfl) (by as_aux_lemma => kernel_rfl) (fun _ _ _ h => h) (Or.inl ⟨by rfl, ?hy10x13⟩) (by assumption) ?rest10x13
      case hy10x13 => intro w hSw; go_simp <;> with_reducible rfl
      simp only [Act.put, List.getElem_toArray, List.getElem_cons_zero, List.getElem_cons_succ, List.setIfInBounds_toArray, List.set_cons_zero, List.set_cons_succ]
      refine wpAnyH_ready (rs := [14]) (by as_aux_lemma => kernel_rfl) (by simp) ?_
      refine AllReadyH.cons rfl (fun K hK => ?_) AllReadyH.nil
      go_simp
      refine (unhide HND _ t7).mono ?_
      rintro e c8 ⟨rd, rfl, sd, hb8⟩
      refine hK _ _ (t7.trans (hb8.mono t7.size)) ?_
      clear hK hHeld
      have t8 : Below wr.heap.size wr c8 := t7.trans (hb8.mono t7.size)
      intro hHeld
      refine wpAnyH_ready (rs := [15]) (by as_aux_lemma => kernel_rfl) (by simp) ?_
      refine AllReadyH.cons rfl (fun K hK => ?_) AllReadyH.nil
      go_simp
      refine (unhide HRD _ t8 _ sd).mono ?_
      rintro e c9 ⟨b3, e3, b4, e4, rfl, sv3, sh3, hb9⟩
      refine hK _ _ (t8.trans (hb9.mono t8.size)) ?_
      clear hK hHeld
      have t9 : Below wr.heap.size wr c9 := t8.trans (hb9.mono t8.size)
      intro hHeld
      have sR9 := unhide HSV _ t9
      refine wpAnyH_ready (rs := [16]) (by as_aux_lemma => kernel_rfl) (by simp) ?_
      refine AllReadyH.cons rfl (fun K hK => ?_) AllReadyH.nil
      go_simp
      refine (rsame_self sR9.1 sR9.2 sv3 sh3).mono ?_
      rintro e cB ⟨rfl, hbB⟩
      refine hK _ _ (t9.trans (hbB.mono t9.size)) ?_
      clear hK hHeld
      have tB : Below wr.heap.size wr cB := t9.trans (hbB.mono t9.size)
      intro hHeld
      refine wpAnyH_take (i := 17) (v := ?v11x17) rfl (by as_aux_lemma => kernel_rfl) (by as_aux_lemma => kernel_rfl) (by as_aux_lemma => kernel_rfl) (fun _ _ _ h => h) (Or.inl ⟨by rfl, ?hy11x17⟩) (by assumption) ?rest11x17
      case hy11x17 => intro w hSw; go_simp <;> with_reducible rfl
      simp only [Act.put, List.getElem_toArray, List.getElem_cons_zero, List.getElem_cons_succ, List.setIfInBounds_toArray, List.set_cons_zero, List.set_cons_succ]
      refine wpAnyH_take (i := 18) (v := ?v12x18) rfl (by as_aux_lemma => kernel_rfl) (by as_aux_lemma => kernel_rfl) (by as_aux_lemma => kernel_rfl) (fun _ _ _ h => h) (Or.inl ⟨by rfl, ?hy12x18⟩) (by assumption) ?rest12x18
      case hy12x18 => intro w hSw; go_simp <;> with_reducible rfl
      simp only [Act.put, List.getElem_toArray, List.getElem_cons_zero, List.getElem_cons_succ, List.setIfInBounds_toArray, List.set_cons_zero, List.set_cons_succ]
      refine wpAnyH_done (by as_aux_lemma => kernel_rfl) ?_ _
      clear hHeld
      have HBE := hide (unhide HUP _ tB)
      clear t0 t1 t5 t6 t7 t8 t9 tB hb1 hb5 hb6 hb7 hb8 hb9 hbB sR6 sR9 sv1 sh1 sv3 sh3 sd se5 r2 ho1 ho5 HRN HRD HND HCL HSV HSO HX HT6 HU1 HUP HLO HKO HBL
      have sX := (unhide HX4 cB (unhide HBE)).1.2.2.1
      obtain ⟨_, _, _, _, e, hcap2, hmax2, -⟩ := sees_at4 (unhide HX4 cB (unhide HBE)).2.2
      simp only [Value.slice.injEq] at e
      obtain ⟨rfl, -, rfl⟩ := e
      rw [unhide HNC] at hcap2 hmax2
      go_wp2
      clear sX
      go_loopw [57] (fun c wn => ∃ j : Nat, j ≤ nc ∧ c = .int .i64 j ∧ Below wA.heap.size wA wn) (fun c _ => nc - (intOf c).toNat)
      case atStart => exact ⟨0, by omega, rfl, unhide HBE⟩
      case round =>
        obtain ⟨j, hj, rfl, hbn⟩ := hrel
        obtain ⟨wn, rfl⟩ : ∃ y, y = wr := ⟨_, rfl⟩
        by_cases hjn : j < nc
        · have sH := (unhide HX4 wn hbn).2.2
          have hjl : j < R.cs.length := by rw [unhide HNC]; exact hjn
          obtain ⟨gb, ob, hp2, -, hcx⟩ := ch_cells sH rfl hjl
          subst hp2
          obtain ⟨⟨⟨a, b⟩, ⟨c, q⟩⟩, hx⟩ : ∃ k, R.cs.getD j default = k := ⟨_, rfl⟩
          have hx' : R.cs[j] = ((a, b), (c, q)) := by rw [← hx]; simp [List.getD, hjl]
          rw [hx] at hcx
          obtain ⟨s1, s2, s3, s4⟩ := hcx wn (Below.refl _ _)
          have hin : (a, b) ∈ x.ws := by
            have h := (unhide HKY).2 _ (List.getElem_mem hjl)
            rw [hx'] at h
            exact h
          obtain ⟨y1, hy1⟩ : ∃ y, wn.alloc (.cells #[.int .i32 a, .int .i64 b, .int .i64 c, .bool q] 40) = y := ⟨_, rfl⟩
          have bq : Below wn.heap.size wn y1 := hy1 ▸ below_box _
          have x1 : y1.heap[wn.heap.size]? = some (.cells #[.int .i32 a, .int .i64 b, .int .i64 c, .bool q] 40) := by rw [← hy1]; exact heap_alloc_new wn _
          have bA1 : Below wA.heap.size wA y1 := hbn.trans (bq.mono hbn.size)
          have HUQ : Hid (∀ z, Below y1.heap.size y1 z → Below wA.heap.size wA z) := fun z hz => bA1.trans (hz.mono bA1.size)
          have HWV : Hid (∀ z, Below y1.heap.size y1 z → z.cell? ⟨w.heap.size, 5, none⟩ = some wv) := fun z hz => (unhide HC6 z (unhide HUQ z hz)).2.2.2.2.2
          have HCB : Hid (∀ z, Below y1.heap.size y1 z → z.cell? ⟨wn.heap.size, 0, none⟩ = some (.int .i32 a) ∧ z.cell? ⟨wn.heap.size, 1, none⟩ = some (.int .i64 b)) := fun z hz => by
            have hxz := (hz.block _ (by rw [← hy1]; simp)).trans x1
            exact ⟨cell_at hxz, cell_at hxz⟩
          have HHF : Hid (∀ z, Below y1.heap.size y1 z → Calls Tryd.prog 24 #[wv, .agg #[.int .i32 a, .int .i64 b]] z fun e w' => e = .returned (.bool true) ∧ Below y1.heap.size y1 w') := fun z hz => has_from (unhide HTX y1 ((unhide HAA).trans (bA1.mono (unhide HAA).size))).2.1.ws (decide_eq_true hin) hz
          have HY := hide hy1
          rcases j with _ | s
          · have g8 : decide (((0 : Nat) : Int) > 0) = false := by decide
            rw [Nat.zero_mul, Nat.add_zero] at s1 s2 s3 s4
            clear hx hx' hcx hin bq x1 bA1 hy1 sH
            go_wp2_with (first | rw [unhide HY])
            refine wp_region_held_drew (S := fun y => Below y1.heap.size y1 y) (by kernel_rfl) (Below.refl _ _).drew (fun hHeld => ?_)
            refine wpAnyH_take (i := 0) (v := ?v13x0) rfl (by as_aux_lemma => kernel_rfl) (by as_aux_lemma => kernel_rfl) (by as_aux_lemma => kernel_rfl) (fun _ _ _ h => h) (Or.inl ⟨by rfl, ?hy13x0⟩) (by assumption) ?rest13x0
            case hy13x0 => intro w hSw; go_simp <;> with_reducible rfl
            simp only [Act.put, List.getElem_toArray, List.getElem_cons_zero, List.setIfInBounds_toArray, List.set_cons_zero, List.set_cons_succ]
            refine wpAnyH_take (i := 1) (v := wv) rfl (by as_aux_lemma => kernel_rfl) (by as_aux_lemma => kernel_rfl) (by as_aux_lemma => kernel_rfl) (fun _ _ _ h => h) (Or.inl ⟨by rfl, ?hy14x1⟩) (by assumption) ?rest14x1
            case hy14x1 => intro w hSw; have s0 := unhide HWV _ hSw; go_simp <;> with_reducible rfl
            simp only [Act.put, List.getElem_toArray, List.getElem_cons_zero, List.getElem_cons_succ, List.setIfInBounds_toArray, List.set_cons_zero, List.set_cons_succ]
            refine wpAnyH_take (i := 2) (v := ?v15x2) rfl (by as_aux_lemma => kernel_rfl) (by as_aux_lemma => kernel_rfl) (by as_aux_lemma => kernel_rfl) (fun _ _ _ h => h) (Or.inl ⟨by rfl, ?hy15x2⟩) (by assumption) ?rest15x2
            case hy15x2 => intro w hSw; go_simp <;> with_reducible rfl
            simp only [Act.put, List.getElem_toArray, List.getElem_cons_zero, List.getElem_cons_succ, List.setIfInBounds_toArray, List.set_cons_zero, List.set_cons_succ]
            refine wpAnyH_take (i := 3) (v := (.agg #[.int .i32 a, .int .i64 b])) rfl (by as_aux_lemma => kernel_rfl) (by as_aux_lemma => kernel_rfl) (by as_aux_lemma => kernel_rfl) (fun _ _ _ h => h) (Or.inl ⟨by rfl, ?hy16x3⟩) (by assumption) ?rest16x3
            case hy16x3 => intro w hSw; obtain ⟨k0, k1⟩ := unhide HCB _ hSw; go_simp <;> with_reducible rfl
            simp only [Act.put, List.getElem_toArray, List.getElem_cons_zero, List.getElem_cons_succ, List.setIfInBounds_toArray, List.set_cons_zero, List.set_cons_succ]
            refine wpAnyH_ready (rs := [4]) (by as_aux_lemma => kernel_rfl) (by simp) ?_
            refine AllReadyH.cons rfl (fun K hK => ?_) AllReadyH.nil
            go_simp
            refine (unhide HHF _ (by assumption)).mono ?_
            rintro e wq ⟨rfl, hq1⟩
            refine hK _ _ hq1 ?_
            clear hK hHeld
            intro hHeld
            refine wpAnyH_take (i := 5) (v := ?v17x5) rfl (by as_aux_lemma => kernel_rfl) (by as_aux_lemma => kernel_rfl) (by as_aux_lemma => kernel_rfl) (fun _ _ _ h => h) (Or.inl ⟨by rfl, ?hy17x5⟩) (by assumption) ?rest17x5
            case hy17x5 => intro w hSw; go_simp <;> with_reducible rfl
            simp only [Act.put, List.getElem_toArray, List.getElem_cons_zero, List.getElem_cons_succ, List.setIfInBounds_toArray, List.set_cons_zero, List.set_cons_succ]
            refine wpAnyH_take (i := 6) (v := ?v18x6) rfl (by as_aux_lemma => kernel_rfl) (by as_aux_lemma => kernel_rfl) (by as_aux_lemma => kernel_rfl) (fun _ _ _ h => h) (Or.inl ⟨by rfl, ?hy18x6⟩) (by assumption) ?rest18x6
            case hy18x6 => intro w hSw; go_simp <;> with_reducible rfl
            simp only [Act.put, List.getElem_toArray, List.getElem_cons_zero, List.getElem_cons_succ, List.setIfInBounds_toArray, List.set_cons_zero, List.set_cons_succ]
            refine wpAnyH_take (i := 7) (v := ?v19x7) rfl (by as_aux_lemma => kernel_rfl) (by as_aux_lemma => kernel_rfl) (by as_aux_lemma => kernel_rfl) (fun _ _ _ h => h) (Or.inl ⟨by rfl, ?hy19x7⟩) (by assumption) ?rest19x7
            case hy19x7 => intro w hSw; go_simp <;> with_reducible rfl
            simp only [Act.put, List.getElem_toArray, List.getElem_cons_zero, List.getElem_cons_succ, List.setIfInBounds_toArray, List.set_cons_zero, List.set_cons_succ]
            refine wpAnyH_take (i := 8) (v := (.bool false)) rfl (by as_aux_lemma => kernel_rfl) (by as_aux_lemma => kernel_rfl) (by as_aux_lemma => kernel_rfl) (fun _ _ _ h => h) (Or.inl ⟨by rfl, ?hy20x8⟩) (by assumption) ?rest20x8
            case hy20x8 => intro w hSw; have g := g8; go_simp <;> with_reducible rfl
            simp only [Act.put, List.getElem_toArray, List.getElem_cons_zero, List.getElem_cons_succ, List.setIfInBounds_toArray, List.set_cons_zero, List.set_cons_succ]
            refine wpAnyH_take (i := 9) (v := ?v21x9) rfl (by as_aux_lemma => kernel_rfl) (by as_aux_lemma => kernel_rfl) (by as_aux_lemma => kernel_rfl) (fun _ _ _ h => h) (Or.inl ⟨by rfl, ?hy21x9⟩) (by assumption) ?rest21x9
            case hy21x9 => intro w hSw; go_simp <;> with_reducible rfl
            simp only [Act.put, List.getElem_toArray, List.getElem_cons_zero, List.getElem_cons_succ, List.setIfInBounds_toArray, List.set_cons_zero, List.set_cons_succ]
            refine wpAnyH_take (i := 10) (v := undef) rfl (by as_aux_lemma => kernel_rfl) (by as_aux_lemma => kernel_rfl) (by as_aux_lemma => kernel_rfl) (fun _ _ _ h => h) (Or.inr ⟨by rfl, rfl⟩) (by assumption) ?_
            simp only [Act.put, List.getElem_toArray, List.getElem_cons_zero, List.getElem_cons_succ, List.setIfInBounds_toArray, List.set_cons_zero, List.set_cons_succ]
            refine wpAnyH_take (i := 11) (v := undef) rfl (by as_aux_lemma => kernel_rfl) (by as_aux_lemma => kernel_rfl) (by as_aux_lemma => kernel_rfl) (fun _ _ _ h => h) (Or.inr ⟨by rfl, rfl⟩) (by assumption) ?_
            simp only [Act.put, List.getElem_toArray, List.getElem_cons_zero, List.getElem_cons_succ, List.setIfInBounds_toArray, List.set_cons_zero, List.set_cons_succ]
            refine wpAnyH_take (i := 12) (v := undef) rfl (by as_aux_lemma => kernel_rfl) (by as_aux_lemma => kernel_rfl) (by as_aux_lemma => kernel_rfl) (fun _ _ _ h => h) (Or.inr ⟨by rfl, rfl⟩) (by assumption) ?_
            simp only [Act.put, List.getElem_toArray, List.getElem_cons_zero, List.getElem_cons_succ, List.setIfInBounds_toArray, List.set_cons_zero, List.set_cons_succ]
            refine wpAnyH_take (i := 13) (v := undef) rfl (by as_aux_lemma => kernel_rfl) (by as_aux_lemma => kernel_rfl) (by as_aux_lemma => kernel_rfl) (fun _ _ _ h => h) (Or.inr ⟨by rfl, rfl⟩) (by assumption) ?_
            simp only [Act.put, List.getElem_toArray, List.getElem_cons_zero, List.getElem_cons_succ, List.setIfInBounds_toArray, List.set_cons_zero, List.set_cons_succ]
            refine wpAnyH_take (i := 14) (v := undef) rfl (by as_aux_lemma => kernel_rfl) (by as_aux_lemma => kernel_rfl) (by as_aux_lemma => kernel_rfl) (fun _ _ _ h => h) (Or.inr ⟨by rfl, rfl⟩) (by assumption) ?_
            simp only [Act.put, List.getElem_toArray, List.getElem_cons_zero, List.getElem_cons_succ, List.setIfInBounds_toArray, List.set_cons_zero, List.set_cons_succ]
            refine wpAnyH_take (i := 15) (v := undef) rfl (by as_aux_lemma => kernel_rfl) (by as_aux_lemma => kernel_rfl) (by as_aux_lemma => kernel_rfl) (fun _ _ _ h => h) (Or.inr ⟨by rfl, rfl⟩) (by assumption) ?_
            simp only [Act.put, List.getElem_toArray, List.getElem_cons_zero, List.getElem_cons_succ, List.setIfInBounds_toArray, List.set_cons_zero, List.set_cons_succ]
            refine wpAnyH_take (i := 16) (v := undef) rfl (by as_aux_lemma => kernel_rfl) (by as_aux_lemma => kernel_rfl) (by as_aux_lemma => kernel_rfl) (fun _ _ _ h => h) (Or.inr ⟨by rfl, rfl⟩) (by assumption) ?_
            simp only [Act.put, List.getElem_toArray, List.getElem_cons_zero, List.getElem_cons_succ, List.setIfInBounds_toArray, List.set_cons_zero, List.set_cons_succ]
            refine wpAnyH_take (i := 17) (v := undef) rfl (by as_aux_lemma => kernel_rfl) (by as_aux_lemma => kernel_rfl) (by as_aux_lemma => kernel_rfl) (fun _ _ _ h => h) (Or.inr ⟨by rfl, rfl⟩) (by assumption) ?_
            simp only [Act.put, List.getElem_toArray, List.getElem_cons_zero, List.getElem_cons_succ, List.setIfInBounds_toArray, List.set_cons_zero, List.set_cons_succ]
            refine wpAnyH_take (i := 18) (v := undef) rfl (by as_aux_lemma => kernel_rfl) (by as_aux_lemma => kernel_rfl) (by as_aux_lemma => kernel_rfl) (fun _ _ _ h => h) (Or.inr ⟨by rfl, rfl⟩) (by assumption) ?_
            simp only [Act.put, List.getElem_toArray, List.getElem_cons_zero, List.getElem_cons_succ, List.setIfInBounds_toArray, List.set_cons_zero, List.set_cons_succ]
            refine wpAnyH_take (i := 19) (v := undef) rfl (by as_aux_lemma => kernel_rfl) (by as_aux_lemma => kernel_rfl) (by as_aux_lemma => kernel_rfl) (fun _ _ _ h => h) (Or.inr ⟨by rfl, rfl⟩) (by assumption) ?_
            simp only [Act.put, List.getElem_toArray, List.getElem_cons_zero, List.getElem_cons_succ, List.setIfInBounds_toArray, List.set_cons_zero, List.set_cons_succ]
            refine wpAnyH_take (i := 20) (v := undef) rfl (by as_aux_lemma => kernel_rfl) (by as_aux_lemma => kernel_rfl) (by as_aux_lemma => kernel_rfl) (fun _ _ _ h => h) (Or.inr ⟨by rfl, rfl⟩) (by assumption) ?_
            simp only [Act.put, List.getElem_toArray, List.getElem_cons_zero, List.getElem_cons_succ, List.setIfInBounds_toArray, List.set_cons_zero, List.set_cons_succ]
            refine wpAnyH_take (i := 21) (v := ?v22x21) rfl (by as_aux_lemma => kernel_rfl) (by as_aux_lemma => kernel_rfl) (by as_aux_lemma => kernel_rfl) (fun _ _ _ h => h) (Or.inl ⟨by rfl, ?hy22x21⟩) (by assumption) ?rest22x21
            case hy22x21 => intro w hSw; go_simp <;> with_reducible rfl
            simp only [Act.put, List.getElem_toArray, List.getElem_cons_zero, List.getElem_cons_succ, List.setIfInBounds_toArray, List.set_cons_zero, List.set_cons_succ]
            refine wpAnyH_take (i := 22) (v := ?v23x22) rfl (by as_aux_lemma => kernel_rfl) (by as_aux_lemma => kernel_rfl) (by as_aux_lemma => kernel_rfl) (fun _ _ _ h => h) (Or.inl ⟨by rfl, ?hy23x22⟩) (by assumption) ?rest23x22
            case hy23x22 => intro w hSw; go_simp <;> with_reducible rfl
            simp only [Act.put, List.getElem_toArray, List.getElem_cons_zero, List.getElem_cons_succ, List.setIfInBounds_toArray, List.set_cons_zero, List.set_cons_succ]
            refine wpAnyH_done (by as_aux_lemma => kernel_rfl) ?_ _
            clear hHeld
            have HQ1 := hide (unhide HUQ _ hq1)
            clear hq1
            go_wp2
            go_roundw
            case rel => exact ⟨1, by omega, by go_num, unhide HQ1⟩
            case measure => simp [intOf]; omega
          · have hsl : s < R.cs.length := by omega
            have hsn : s < nc := by omega
            obtain ⟨gb', ob', hp', -, hcy⟩ := ch_cells sH rfl hsl
            simp only [Option.some.injEq, Addr.mk.injEq, and_true] at hp'
            obtain ⟨rfl, rfl⟩ := hp'
            obtain ⟨⟨⟨a', b'⟩, ⟨c', q'⟩⟩, hy⟩ : ∃ k, R.cs.getD s default = k := ⟨_, rfl⟩
            have hy' : R.cs[s] = ((a', b'), (c', q')) := by rw [← hy]; simp [List.getD, hsl]
            rw [hy] at hcy
            have hlt : ltK (a', b') (a, b) := by
              have h := List.pairwise_iff_getElem.1 (unhide HKY).1 s (s + 1) hsl hjl (by omega)
              rw [hx', hy'] at h
              exact h
            have HLS : Hid (∀ z, Below y1.heap.size y1 z → Calls Tryd.prog 26 #[.agg #[.int .i32 a', .int .i64 b'], .agg #[.int .i32 a, .int .i64 b]] z fun e w' => e = .returned (.bool true) ∧ Below y1.heap.size y1 w') := fun z hz => by
              have h := rless_any a' b' a b z
              rw [decide_eq_true hlt] at h
              exact h.mono fun _ _ ⟨h1, h2⟩ => ⟨h1, hz.trans (h2.below.mono hz.size)⟩
            have HCY : Hid (∀ z, Below y1.heap.size y1 z → z.cell? ⟨gb, ob + s * 4, none⟩ = some (.int .i32 a') ∧ z.cell? ⟨gb, ob + s * 4 + 1, none⟩ = some (.int .i64 b')) := fun z hz => by
              have h := hcy z (bq.trans (hz.mono bq.size))
              exact ⟨h.1, h.2.1⟩
            have HXC : Hid (∀ z, Below y1.heap.size y1 z → z.cell? ⟨z1.heap.size, 2, none⟩ = some (.slice (some ⟨gb, ob, none⟩) nc q2)) := fun z hz => (unhide HX4 z (unhide HUQ z hz)).1.2.2.1
            have g8 : decide (((s + 1 : Nat) : Int) > 0) = true := decide_eq_true (by omega)
            have hwr : IntKind.i64.wrap (s : Int) = (s : Int) := wrap_i64 _ (by omega) (by omega)
            clear hx hx' hcx hin bq x1 bA1 hy1 sH hcy hy hy' hlt hsl hjl
            go_wp2_with (first | rw [unhide HY])
            refine wp_region_held_drew (S := fun y => Below y1.heap.size y1 y) (by kernel_rfl) (Below.refl _ _).drew (fun hHeld => ?_)
            refine wpAnyH_take (i := 0) (v := ?v24x0) rfl (by as_aux_lemma => kernel_rfl) (by as_aux_lemma => kernel_rfl) (by as_aux_lemma => kernel_rfl) (fun _ _ _ h => h) (Or.inl ⟨by rfl, ?hy24x0⟩) (by assumption) ?rest24x0
            case hy24x0 => intro w hSw; go_simp <;> with_reducible rfl
            simp only [Act.put, List.getElem_toArray, List.getElem_cons_zero, List.setIfInBounds_toArray, List.set_cons_zero, List.set_cons_succ]
            refine wpAnyH_take (i := 1) (v := wv) rfl (by as_aux_lemma => kernel_rfl) (by as_aux_lemma => kernel_rfl) (by as_aux_lemma => kernel_rfl) (fun _ _ _ h => h) (Or.inl ⟨by rfl, ?hy25x1⟩) (by assumption) ?rest25x1
            case hy25x1 => intro w hSw; have s0 := unhide HWV _ hSw; go_simp <;> with_reducible rfl
            simp only [Act.put, List.getElem_toArray, List.getElem_cons_zero, List.getElem_cons_succ, List.setIfInBounds_toArray, List.set_cons_zero, List.set_cons_succ]
            refine wpAnyH_take (i := 2) (v := ?v26x2) rfl (by as_aux_lemma => kernel_rfl) (by as_aux_lemma => kernel_rfl) (by as_aux_lemma => kernel_rfl) (fun _ _ _ h => h) (Or.inl ⟨by rfl, ?hy26x2⟩) (by assumption) ?rest26x2
            case hy26x2 => intro w hSw; go_simp <;> with_reducible rfl
            simp only [Act.put, List.getElem_toArray, List.getElem_cons_zero, List.getElem_cons_succ, List.setIfInBounds_toArray, List.set_cons_zero, List.set_cons_succ]
            refine wpAnyH_take (i := 3) (v := (.agg #[.int .i32 a, .int .i64 b])) rfl (by as_aux_lemma => kernel_rfl) (by as_aux_lemma => kernel_rfl) (by as_aux_lemma => kernel_rfl) (fun _ _ _ h => h) (Or.inl ⟨by rfl, ?hy27x3⟩) (by assumption) ?rest27x3
            case hy27x3 => intro w hSw; obtain ⟨k0, k1⟩ := unhide HCB _ hSw; go_simp <;> with_reducible rfl
            simp only [Act.put, List.getElem_toArray, List.getElem_cons_zero, List.getElem_cons_succ, List.setIfInBounds_toArray, List.set_cons_zero, List.set_cons_succ]
            refine wpAnyH_ready (rs := [4]) (by as_aux_lemma => kernel_rfl) (by simp) ?_
            refine AllReadyH.cons rfl (fun K hK => ?_) AllReadyH.nil
            go_simp
            refine (unhide HHF _ (by assumption)).mono ?_
            rintro e wq ⟨rfl, hq1⟩
            refine hK _ _ hq1 ?_
            clear hK hHeld
            intro hHeld
            refine wpAnyH_take (i := 5) (v := ?v28x5) rfl (by as_aux_lemma => kernel_rfl) (by as_aux_lemma => kernel_rfl) (by as_aux_lemma => kernel_rfl) (fun _ _ _ h => h) (Or.inl ⟨by rfl, ?hy28x5⟩) (by assumption) ?rest28x5
            case hy28x5 => intro w hSw; go_simp <;> with_reducible rfl
            simp only [Act.put, List.getElem_toArray, List.getElem_cons_zero, List.getElem_cons_succ, List.setIfInBounds_toArray, List.set_cons_zero, List.set_cons_succ]
            refine wpAnyH_take (i := 6) (v := ?v29x6) rfl (by as_aux_lemma => kernel_rfl) (by as_aux_lemma => kernel_rfl) (by as_aux_lemma => kernel_rfl) (fun _ _ _ h => h) (Or.inl ⟨by rfl, ?hy29x6⟩) (by assumption) ?rest29x6
            case hy29x6 => intro w hSw; go_simp <;> with_reducible rfl
            simp only [Act.put, List.getElem_toArray, List.getElem_cons_zero, List.getElem_cons_succ, List.setIfInBounds_toArray, List.set_cons_zero, List.set_cons_succ]
            refine wpAnyH_take (i := 7) (v := ?v30x7) rfl (by as_aux_lemma => kernel_rfl) (by as_aux_lemma => kernel_rfl) (by as_aux_lemma => kernel_rfl) (fun _ _ _ h => h) (Or.inl ⟨by rfl, ?hy30x7⟩) (by assumption) ?rest30x7
            case hy30x7 => intro w hSw; go_simp <;> with_reducible rfl
            simp only [Act.put, List.getElem_toArray, List.getElem_cons_zero, List.getElem_cons_succ, List.setIfInBounds_toArray, List.set_cons_zero, List.set_cons_succ]
            refine wpAnyH_take (i := 8) (v := (.bool true)) rfl (by as_aux_lemma => kernel_rfl) (by as_aux_lemma => kernel_rfl) (by as_aux_lemma => kernel_rfl) (fun _ _ _ h => h) (Or.inl ⟨by rfl, ?hy31x8⟩) (by assumption) ?rest31x8
            case hy31x8 => intro w hSw; have g := g8; go_simp <;> with_reducible rfl
            simp only [Act.put, List.getElem_toArray, List.getElem_cons_zero, List.getElem_cons_succ, List.setIfInBounds_toArray, List.set_cons_zero, List.set_cons_succ]
            refine wpAnyH_take (i := 9) (v := ?v32x9) rfl (by as_aux_lemma => kernel_rfl) (by as_aux_lemma => kernel_rfl) (by as_aux_lemma => kernel_rfl) (fun _ _ _ h => h) (Or.inl ⟨by rfl, ?hy32x9⟩) (by assumption) ?rest32x9
            case hy32x9 => intro w hSw; go_simp <;> with_reducible rfl
            simp only [Act.put, List.getElem_toArray, List.getElem_cons_zero, List.getElem_cons_succ, List.setIfInBounds_toArray, List.set_cons_zero, List.set_cons_succ]
            refine wpAnyH_take (i := 10) (v := ?v33x10) rfl (by as_aux_lemma => kernel_rfl) (by as_aux_lemma => kernel_rfl) (by as_aux_lemma => kernel_rfl) (fun _ _ _ h => h) (Or.inl ⟨by rfl, ?hy33x10⟩) (by assumption) ?rest33x10
            case hy33x10 => intro w hSw; go_simp <;> with_reducible rfl
            simp only [Act.put, List.getElem_toArray, List.getElem_cons_zero, List.getElem_cons_succ, List.setIfInBounds_toArray, List.set_cons_zero, List.set_cons_succ]
            refine wpAnyH_take (i := 11) (v := (.slice (some ⟨gb, ob, none⟩) nc q2)) rfl (by as_aux_lemma => kernel_rfl) (by as_aux_lemma => kernel_rfl) (by as_aux_lemma => kernel_rfl) (fun _ _ _ h => h) (Or.inl ⟨by rfl, ?hy34x11⟩) (by assumption) ?rest34x11
            case hy34x11 => intro w hSw; have s0 := unhide HXC _ hSw; go_simp <;> with_reducible rfl
            simp only [Act.put, List.getElem_toArray, List.getElem_cons_zero, List.getElem_cons_succ, List.setIfInBounds_toArray, List.set_cons_zero, List.set_cons_succ]
            refine wpAnyH_take (i := 12) (v := ?v35x12) rfl (by as_aux_lemma => kernel_rfl) (by as_aux_lemma => kernel_rfl) (by as_aux_lemma => kernel_rfl) (fun _ _ _ h => h) (Or.inl ⟨by rfl, ?hy35x12⟩) (by assumption) ?rest35x12
            case hy35x12 => intro w hSw; go_simp <;> with_reducible rfl
            simp only [Act.put, List.getElem_toArray, List.getElem_cons_zero, List.getElem_cons_succ, List.setIfInBounds_toArray, List.set_cons_zero, List.set_cons_succ]
            refine wpAnyH_take (i := 13) (v := (.int .i64 (s : Int))) rfl (by as_aux_lemma => kernel_rfl) (by as_aux_lemma => kernel_rfl) (by as_aux_lemma => kernel_rfl) (fun _ _ _ h => h) (Or.inl ⟨by rfl, ?hy36x13⟩) (by assumption) ?rest36x13
            case hy36x13 => intro w hSw; have g := hwr; go_simp <;> with_reducible rfl
            simp only [Act.put, List.getElem_toArray, List.getElem_cons_zero, List.getElem_cons_succ, List.setIfInBounds_toArray, List.set_cons_zero, List.set_cons_succ]
            refine wpAnyH_take (i := 14) (v := ?v37x14) rfl (by as_aux_lemma => kernel_rfl) (by as_aux_lemma => kernel_rfl) (by as_aux_lemma => kernel_rfl) (fun _ _ _ h => h) (Or.inl ⟨by rfl, ?hy37x14⟩) (by assumption) ?rest37x14
            case hy37x14 => intro w hSw; go_simp <;> with_reducible rfl
            simp only [Act.put, List.getElem_toArray, List.getElem_cons_zero, List.getElem_cons_succ, List.setIfInBounds_toArray, List.set_cons_zero, List.set_cons_succ]
            refine wpAnyH_take (i := 15) (v := ?v38x15) rfl (by as_aux_lemma => kernel_rfl) (by as_aux_lemma => kernel_rfl) (by as_aux_lemma => kernel_rfl) (fun _ _ _ h => h) (Or.inl ⟨by rfl, ?hy38x15⟩) (by assumption) ?rest38x15
            case hy38x15 => intro w hSw; go_simp <;> with_reducible rfl
            simp only [Act.put, List.getElem_toArray, List.getElem_cons_zero, List.getElem_cons_succ, List.setIfInBounds_toArray, List.set_cons_zero, List.set_cons_succ]
            refine wpAnyH_take (i := 16) (v := (.agg #[.int .i32 a', .int .i64 b'])) rfl (by as_aux_lemma => kernel_rfl) (by as_aux_lemma => kernel_rfl) (by as_aux_lemma => kernel_rfl) (fun _ _ _ h => h) (Or.inl ⟨by rfl, ?hy39x16⟩) (by assumption) ?rest39x16
            case hy39x16 => intro w hSw; obtain ⟨k0, k1⟩ := unhide HCY _ hSw; go_simp <;> with_reducible rfl
            simp only [Act.put, List.getElem_toArray, List.getElem_cons_zero, List.getElem_cons_succ, List.setIfInBounds_toArray, List.set_cons_zero, List.set_cons_succ]
            refine wpAnyH_take (i := 17) (v := ?v40x17) rfl (by as_aux_lemma => kernel_rfl) (by as_aux_lemma => kernel_rfl) (by as_aux_lemma => kernel_rfl) (fun _ _ _ h => h) (Or.inl ⟨by rfl, ?hy40x17⟩) (by assumption) ?rest40x17
            case hy40x17 => intro w hSw; go_simp <;> with_reducible rfl
            simp only [Act.put, List.getElem_toArray, List.getElem_cons_zero, List.getElem_cons_succ, List.setIfInBounds_toArray, List.set_cons_zero, List.set_cons_succ]
            refine wpAnyH_take (i := 18) (v := (.agg #[.int .i32 a, .int .i64 b])) rfl (by as_aux_lemma => kernel_rfl) (by as_aux_lemma => kernel_rfl) (by as_aux_lemma => kernel_rfl) (fun _ _ _ h => h) (Or.inl ⟨by rfl, ?hy41x18⟩) (by assumption) ?rest41x18
            case hy41x18 => intro w hSw; obtain ⟨k0, k1⟩ := unhide HCB _ hSw; go_simp <;> with_reducible rfl
            simp only [Act.put, List.getElem_toArray, List.getElem_cons_zero, List.getElem_cons_succ, List.setIfInBounds_toArray, List.set_cons_zero, List.set_cons_succ]
            refine wpAnyH_ready (rs := [19]) (by as_aux_lemma => kernel_rfl) (by simp) ?_
            refine AllReadyH.cons rfl (fun K hK => ?_) AllReadyH.nil
            go_simp
            refine (unhide HLS _ (by assumption)).mono ?_
            rintro e wq ⟨rfl, hq2⟩
            refine hK _ _ hq2 ?_
            clear hK hHeld
            intro hHeld
            refine wpAnyH_take (i := 20) (v := ?v42x20) rfl (by as_aux_lemma => kernel_rfl) (by as_aux_lemma => kernel_rfl) (by as_aux_lemma => kernel_rfl) (fun _ _ _ h => h) (Or.inl ⟨by rfl, ?hy42x20⟩) (by assumption) ?rest42x20
            case hy42x20 => intro w hSw; go_simp <;> with_reducible rfl
            simp only [Act.put, List.getElem_toArray, List.getElem_cons_zero, List.getElem_cons_succ, List.setIfInBounds_toArray, List.set_cons_zero, List.set_cons_succ]
            refine wpAnyH_take (i := 21) (v := ?v43x21) rfl (by as_aux_lemma => kernel_rfl) (by as_aux_lemma => kernel_rfl) (by as_aux_lemma => kernel_rfl) (fun _ _ _ h => h) (Or.inl ⟨by rfl, ?hy43x21⟩) (by assumption) ?rest43x21
            case hy43x21 => intro w hSw; go_simp <;> with_reducible rfl
            simp only [Act.put, List.getElem_toArray, List.getElem_cons_zero, List.getElem_cons_succ, List.setIfInBounds_toArray, List.set_cons_zero, List.set_cons_succ]
            refine wpAnyH_take (i := 22) (v := ?v44x22) rfl (by as_aux_lemma => kernel_rfl) (by as_aux_lemma => kernel_rfl) (by as_aux_lemma => kernel_rfl) (fun _ _ _ h => h) (Or.inl ⟨by rfl, ?hy44x22⟩) (by assumption) ?rest44x22
            case hy44x22 => intro w hSw; go_simp <;> with_reducible rfl
            simp only [Act.put, List.getElem_toArray, List.getElem_cons_zero, List.getElem_cons_succ, List.setIfInBounds_toArray, List.set_cons_zero, List.set_cons_succ]
            refine wpAnyH_done (by as_aux_lemma => kernel_rfl) ?_ _
            clear hHeld
            have HQ1 := hide (unhide HUQ _ hq2)
            clear hq1 hq2
            go_wp2
            go_roundw
            case rel => exact ⟨s + 1 + 1, by omega, by go_num, unhide HQ1⟩
            case measure => simp [intOf]; omega
        · obtain rfl : j = nc := by omega
          obtain ⟨d0, d1, d2, d3, d4, d5⟩ := unhide HC6 wn hbn
          have HBN := hide hbn
          have HCZ := hide (unhide HCK wn ((unhide HAA).trans (hbn.mono (unhide HAA).size)))
          clear hbn
          by_cases h0 : C = 0
          · have g0 : (C == 0) = true := by simpa using h0
            clear h0
            go_wp2_with (go_at_call 27; refine Calls.mono (unhide HCZ) ?_; rintro e wz ⟨rfl, hz⟩; have HZZ := hide hz; have hy0 := (unhide HX4 wz ((unhide HBN).trans (hz.mono (unhide HBN).size))).1.1; clear hz)
            go_ret
            have b1 := unhide HB1
            have b2 := b1.trans ((unhide HAA).mono b1.size)
            have b3 := b2.trans ((unhide HBN).mono b2.size)
            exact ⟨rfl, b3.trans ((unhide HZZ).mono b3.size)⟩
          · have g0 : (C == 0) = false := by simpa using h0
            have g1 : (R.en == 1) = true := by simpa using unhide HEN h0
            clear h0
            go_wp2_with (go_at_call 27; refine Calls.mono (unhide HCZ) ?_; rintro e wz ⟨rfl, hz⟩; have HZZ := hide hz; have hy0 := (unhide HX4 wz ((unhide HBN).trans (hz.mono (unhide HBN).size))).1.1; clear hz)
            go_ret
            have b1 := unhide HB1
            have b2 := b1.trans ((unhide HAA).mono b1.size)
            have b3 := b2.trans ((unhide HBN).mono b2.size)
            exact ⟨rfl, b3.trans ((unhide HZZ).mono b3.size)⟩
end Go.Proofs.YtldapckooohigaaDoor
