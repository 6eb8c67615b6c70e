/- The program's Locks. -/
import Derived.Test.YtibjhjkeflbghaaKD
import Derived.Test.YtibjhjkeflbghaaM0
import Derived.Test.YtibjhjkeflbghaaC2
namespace Go.Proofs.Ytibjhjkeflbghaa
open Go.RowKit
set_option maxRecDepth 100000

/-- The locks of who reads R and writes W. -/
def lks (R W : List Ky) : List Lk := (srt (R ++ W)).map fun k => (k, decide (k ∈ W))
theorem lks_len (R W : List Ky) : (lks R W).length ≤ R.length + W.length := by
  unfold lks
  rw [List.length_map]
  have := srt_len (R ++ W)
  rw [List.length_append] at this
  exact this
/-- Nothing but the block mb has turned below. -/
structure But (mb : Nat) (Y w : World) : Prop where
  os : w.os = Y.os
  tape : w.tape = Y.tape
  output : w.output = Y.output
  size : Y.heap.size ≤ w.heap.size
  block : ∀ j, j < Y.heap.size → j ≠ mb → w.heap[j]? = Y.heap[j]?
theorem But.refl (mb : Nat) (w : World) : But mb w w := ⟨rfl, rfl, rfl, Nat.le_refl _, fun _ _ _ => rfl⟩
theorem But.below' {mb : Nat} {Y w z : World} (h : But mb Y w) (hb : Below w.heap.size w z) : But mb Y z :=
  ⟨hb.os.trans h.os, hb.tape.trans h.tape, hb.output.trans h.output, Nat.le_trans h.size hb.size, fun j hj hm => (hb.block j (Nat.lt_of_lt_of_le hj h.size)).trans (h.block j hj hm)⟩
theorem But.put {mb : Nat} {Y w z : World} (h : But mb Y w) (h1 : ∀ j, j ≠ mb → z.heap[j]? = w.heap[j]?) (h2 : z.heap.size = w.heap.size) (h3 : z.os = w.os) (h4 : z.tape = w.tape) (h5 : z.output = w.output) : But mb Y z :=
  ⟨h3.trans h.os, h4.trans h.tape, h5.trans h.output, by rw [h2]; exact h.size, fun j hj hm => (h1 j hm).trans (h.block j hj hm)⟩
theorem But.low {mb B : Nat} {Y w : World} (h : But mb Y w) (hm : B ≤ mb) (hB : B ≤ Y.heap.size) : Below B Y w :=
  ⟨h.os, h.tape, h.output, h.size, fun j hj => h.block j (by omega) (by omega)⟩
theorem But.cell {mb : Nat} {Y w : World} (h : But mb Y w) {f : Ky → Option Value} (hm : MapS Y mb f) (p : Addr) (x : Value) (hp : Y.cell? p = some x) : w.cell? p = some x := by
  have hlt := World.block_lt_of_cell? Y p hp
  have hne : p.block ≠ mb := fun e => by
    obtain ⟨l, ⟨es, c, h1, _⟩, _⟩ := hm
    unfold World.cell? at hp
    rw [e, h1] at hp
    simp at hp
  have := h.block p.block hlt hne
  unfold World.cell? at hp ⊢
  rw [this]
  exact hp
/-- The keys of a list, as a map of nothing. -/
def setF (L : List Ky) : Ky → Option Value := fun k => if k ∈ L then some (.agg #[]) else none
theorem setF_nil : setF [] = fun _ => none := funext fun k => by simp [setF]
theorem setF_snoc (L : List Ky) (k : Ky) : putF (setF L) k (.agg #[]) = setF (L ++ [k]) := funext fun x => by
  unfold putF setF
  by_cases h : x = k <;> simp [h]

set_option maxHeartbeats 800000 in
theorem locks_call {s r : Int} {cv av rv wv : Value} {R W : List Ky} {w : World} (hr : SeesL kC 2 w rv R) (hw : SeesL kC 2 w wv W) (okr : ∀ k ∈ R, OkK k) (okw : ∀ k ∈ W, OkK k) (hl : R.length + W.length ≤ 4398046511104) :
    Calls Try.prog 14 #[.agg #[.int .i64 s, .int .i64 r, cv, av, rv, wv]] w fun e w' => ∃ v, e = .returned v ∧ w'.ownsRow w.heap.size 39 3 v (lks R W).length ((lks R W).flatMap lC) ∧ Below w.heap.size w w' := by
  obtain ⟨Y0, hY0⟩ : ∃ y, w.alloc (.cells #[.int .i64 s, .int .i64 r, cv, av, rv, wv] 26) = y := ⟨_, rfl⟩
  have b0 : Below w.heap.size w Y0 := hY0 ▸ below_box _
  have z0 : Y0.heap.size = w.heap.size + 1 := by rw [← hY0]; simp
  have x0 : Y0.heap[w.heap.size]? = some (.cells #[.int .i64 s, .int .i64 r, cv, av, rv, wv] 26) := by rw [← hY0]; exact heap_alloc_new w _
  obtain ⟨Y, hY⟩ : ∃ y, Y0.alloc (.map #[] 0) = y := ⟨_, rfl⟩
  have bY : Below w.heap.size w Y := hY ▸ b0.alloc b0.size _
  have mY : MapS Y Y0.heap.size (setF []) := by rw [setF_nil, ← hY]; exact MapS.start Y0
  have xY : Y.heap[w.heap.size]? = some (.cells #[.int .i64 s, .int .i64 r, cv, av, rv, wv] 26) := by rw [← hY]; exact (Below.heap_alloc Y0 _ _ (by omega)).trans x0
  obtain ⟨mb, hmb⟩ : ∃ m, Y0.heap.size = m := ⟨_, rfl⟩
  rw [hmb] at mY
  have hmk : (Instr.makeMap 69 none).run Try.prog Y0 = .ok (.map (some mb)) Y := by rw [← hY, ← hmb]; rfl
  have c4 : Y.cell? ⟨w.heap.size, 4, none⟩ = some rv := cell_at xY
  have c5 : Y.cell? ⟨w.heap.size, 5, none⟩ = some wv := cell_at xY
  have hwm : w.heap.size ≤ mb := by omega
  have HMY := hide mY
  have HW : Hid (∀ z, But mb Y z → SeesL kC 2 z wv W) := fun z hb => (hw.below kC_len bY).keep kC_len (hb.cell mY)
  have HR : Hid (∀ z, But mb Y z → SeesL kC 2 z rv R) := fun z hb => (hr.below kC_len bY).keep kC_len (hb.cell mY)
  have HC4 : Hid (∀ z, But mb Y z → z.cell? ⟨w.heap.size, 4, none⟩ = some rv) := fun z hb => hb.cell mY _ _ c4
  have HC5 : Hid (∀ z, But mb Y z → z.cell? ⟨w.heap.size, 5, none⟩ = some wv) := fun z hb => hb.cell mY _ _ c5
  have HBY := hide bY
  have HOKW := hide okw
  have HOKA : Hid (∀ k ∈ R ++ W, OkK k) := fun k hk => (List.mem_append.1 hk).elim (okr k) (okw k)
  obtain ⟨aw, cw, hvw⟩ := hw.shape
  obtain ⟨ar, cr, hvr⟩ := hr.shape
  obtain ⟨nr, hnr⟩ : ∃ n, R.length = n := ⟨_, rfl⟩
  rw [hnr] at hvr
  have HNR := hide hnr
  obtain ⟨n, hn⟩ : ∃ n, W.length = n := ⟨_, rfl⟩
  have HVW := hide hvw
  have HN := hide hn
  have hmax : n ≤ 4398046511104 := by omega
  have HL := hide hl
  have HWM := hide hwm
  rw [hn] at hvw
  subst hvw hvr
  clear hnr hr hw okr okw b0 z0 x0 bY xY mY hmb hl hn hwm
  go_enter Try.func14, Try.ntmps14
  go_wp2_with (first | rw [hY0] | rw [hY])
  clear hmk c4 c5
  go_loopw [15] (fun c wr => ∃ t : Nat, t ≤ n ∧ c = .int .i64 t ∧ MapS wr mb (setF (W.take t)) ∧ But mb Y wr) (fun c _ => n - (intOf c).toNat)
  case atStart => exact ⟨0, by omega, rfl, by simpa using unhide HMY, But.refl _ _⟩
  case round =>
    obtain ⟨t, ht, rfl, hms, hbt⟩ := hrel
    have HMS := hide hms
    have HBT := hide hbt
    by_cases hlt : t < n
    · have hnl := unhide HN
      have htl : t < W.length := by omega
      obtain ⟨ao', cap', gb, ob, hv', _, _, hao, hcl⟩ := SeesL.key (unhide HW wr hbt)
      rw [hnl] at hv'
      simp only [Value.slice.injEq, true_and] at hv'
      obtain ⟨rfl, rfl⟩ := hv'
      obtain rfl := hao (by omega)
      obtain ⟨g1, g2⟩ := hcl t (by omega)
      obtain ⟨⟨a, b⟩, hx⟩ : ∃ k, W.getD t default = k := ⟨_, rfl⟩
      have hx' : W[t] = (a, b) := by rw [← hx]; simp [List.getD, htl]
      rw [hx] at g1 g2
      have hokx : OkK (a, b) := hx' ▸ unhide HOKW _ (List.getElem_mem htl)
      have htk : W.take (t + 1) = W.take t ++ [(a, b)] := by rw [List.take_succ_eq_append_getElem htl, hx']
      obtain ⟨y1, hy1⟩ : ∃ y, wr.alloc (.cells #[.int .i32 a, .int .i64 b] 37) = y := ⟨_, rfl⟩
      have b1 : Below wr.heap.size wr y1 := hy1 ▸ below_box _
      have x1 : y1.heap[wr.heap.size]? = some (.cells #[.int .i32 a, .int .i64 b] 37) := by rw [← hy1]; exact heap_alloc_new wr _
      have d1 : y1.cell? ⟨wr.heap.size, 0, none⟩ = some (.int .i32 a) := cell_at x1
      have d2 : y1.cell? ⟨wr.heap.size, 1, none⟩ = some (.int .i64 b) := cell_at x1
      obtain ⟨y2, r2, m2, o2, s2, q1, q2, q3⟩ := (hms.below b1).put Try.under69 a b hokx (.agg #[])
      rw [setF_snoc, ← htk] at m2
      have HF := hide (And.intro m2 ((hbt.below' b1).put o2 s2 q1 q2 q3))
      clear hnl hx hx' hcl hao hms hbt hokx htk b1 x1 m2 o2 s2 q1 q2 q3
      go_wp2_with (first | rw [hy1])
      go_roundw
      case rel => exact ⟨t + 1, by omega, by go_num, (unhide HF).1, (unhide HF).2⟩
      case measure => simp [intOf]; omega
    · obtain rfl : t = n := by omega
      have hnl := unhide HN
      rw [List.take_of_length_le (by omega)] at hms
      have c4 := unhide HC4 wr hbt
      have c5 := unhide HC5 wr hbt
      obtain ⟨Z, hZ⟩ : ∃ y, wr.alloc (.cells #[.slice ar nr cr, .slice aw t cw] 24) = y := ⟨_, rfl⟩
      have bZ : Below wr.heap.size wr Z := hZ ▸ below_box _
      have xZ : Z.heap[wr.heap.size]? = some (.cells #[.slice ar nr cr, .slice aw t cw] 24) := by rw [← hZ]; exact heap_alloc_new wr _
      have HCC := hide (concat_keys wr.heap.size (.slice ar nr cr) (.slice aw t cw) R W Z (cell_at xZ) (cell_at xZ) ((unhide HR wr hbt).below kC_len bZ) ((unhide HW wr hbt).below kC_len bZ) (by have := unhide HL; omega))
      have HZ := hide (And.intro (hms.below bZ) (hbt.below' bZ))
      obtain ⟨L, hL⟩ : ∃ L, R ++ W = L := ⟨_, rfl⟩
      obtain ⟨m, hm⟩ : ∃ m, L.length = m := ⟨_, rfl⟩
      obtain ⟨K, hK⟩ : ∃ K, srt L = K := ⟨_, rfl⟩
      obtain ⟨kn, hkn⟩ : ∃ m, K.length = m := ⟨_, rfl⟩
      have hmb : m ≤ 4398046511104 := by rw [← hm, ← hL, List.length_append]; exact unhide HL
      have hknb : kn ≤ 4398046511104 := by rw [← hkn, ← hK]; exact Nat.le_trans (srt_len L) (by omega)
      have hOKL : ∀ k ∈ L, OkK k := hL ▸ unhide HOKA
      have HOKK : Hid (∀ k ∈ K, OkK k) := fun k hk => hOKL k ((srt_mem k L).1 (hK ▸ hk))
      have HKE : Hid (lks R W = K.map fun k => (k, decide (k ∈ W))) := by unfold Hid lks; rw [hL, hK]
      rw [hL, hm] at HCC
      have HKN := hide hkn
      have HKY : Hid (∀ z v, SeesL kC 2 z v L → Calls Try.prog 39 #[v] z fun e w' => ∃ r, e = .returned r ∧ w'.ownsRow z.heap.size 37 2 r kn (K.flatMap kC) ∧ Below z.heap.size z w') := fun z v hv => by
        have := keys_any hv hOKL (by omega)
        rw [hK, hkn] at this
        exact this
      clear hnl hms hbt bZ xZ hL hm hK hkn hmb hOKL
      go_wp2_with (first | rw [hZ] | (go_at_call 40; refine (unhide HCC).mono ?_; rintro e w1 ⟨v1, rfl, ho1, hb1⟩; have HK := hide (unhide HKY _ _ (own_sees kC_len (by decide) ho1).2); obtain ⟨a1, k1, e1⟩ := own_shape ho1; subst e1; have HB1 := hide hb1; clear ho1 hb1 HCC) | (go_at_call 39; refine (unhide HK).mono ?_; rintro e w2 ⟨v2, rfl, ho2, hb2⟩; have HO2 := hide ho2; have HB2 := hide hb2; obtain ⟨a2, k2, e2⟩ := own_shape ho2; subst e2; clear ho2 hb2 HK))
      have hbZ : Below Z.heap.size Z w2 := (unhide HB1).trans ((unhide HB2).mono (unhide HB1).size)
      have HM2 : Hid (∀ z, Below w2.heap.size w2 z → MapS z mb (setF W)) := fun z hz => ((unhide HZ).1.below hbZ).below hz
      have HBW : Hid (Below w.heap.size w w2) := (unhide HBY).trans (((unhide HZ).2.below' hbZ).low (unhide HWM) (unhide HBY).size)
      have HSK : Hid (∀ z, Below w2.heap.size w2 z → SeesL kC 2 z (.slice a2 kn k2) K) := fun z hz => (own_sees kC_len (by decide) (unhide HO2)).2.below kC_len hz
      clear hbZ hZ HZ HMS HBT c4 c5 HB1 HB2 HO2 HKY
      go_loopw [6, 31] (fun o c wr => ∃ t : Nat, t ≤ kn ∧ c = .int .i64 t ∧ wr.ownsRow w2.heap.size 39 3 o t (((K.take t).map fun k => (k, decide (k ∈ W))).flatMap lC) ∧ Below w2.heap.size w2 wr) (fun _ c _ => kn - (intOf c).toNat)
      case atStart => exact ⟨0, by omega, rfl, by simpa using own_nil _ _ _ _, Below.refl _ _⟩
      case round =>
        obtain ⟨t, ht, rfl, hor, hbr⟩ := hrel
        have HOR := hide hor
        have HBR := hide hbr
        obtain ⟨av1, cv1, hov⟩ := own_shape hor
        by_cases hlt : t < kn
        · have hkl := unhide HKN
          have htl : t < K.length := by omega
          obtain ⟨ao', cap', gb, ob, hv', _, _, hao, hcl⟩ := SeesL.key (unhide HSK wr hbr)
          rw [hkl] at hv'
          simp only [Value.slice.injEq, true_and] at hv'
          obtain ⟨rfl, rfl⟩ := hv'
          obtain rfl := hao (by omega)
          obtain ⟨g1, g2⟩ := hcl t (by omega)
          obtain ⟨⟨a, b⟩, hx⟩ : ∃ k, K.getD t default = k := ⟨_, rfl⟩
          have hx' : K[t] = (a, b) := by rw [← hx]; simp [List.getD, htl]
          rw [hx] at g1 g2
          have hokx : OkK (a, b) := hx' ▸ unhide HOKK _ (List.getElem_mem htl)
          obtain ⟨d, hd⟩ : ∃ d, decide ((a, b) ∈ W) = d := ⟨_, rfl⟩
          have htk : ((K.take (t + 1)).map fun k => (k, decide (k ∈ W))) = ((K.take t).map fun k => (k, decide (k ∈ W))) ++ [((a, b), d)] := by rw [List.take_succ_eq_append_getElem htl, hx', List.map_append, ← hd]; rfl
          obtain ⟨y1, hy1⟩ : ∃ y, wr.alloc (.cells #[.int .i32 a, .int .i64 b] 37) = y := ⟨_, rfl⟩
          obtain ⟨y2, hy2⟩ : ∃ y, y1.alloc (.cells #[] 70) = y := ⟨_, rfl⟩
          obtain ⟨y3, hy3⟩ : ∃ y, y2.alloc (.cells #[.int .i32 a, .int .i64 b, .bool d] 39) = y := ⟨_, rfl⟩
          have b1 : Below wr.heap.size wr y1 := hy1 ▸ below_box _
          have hz1 : y1.heap.size = wr.heap.size + 1 := by rw [← hy1]; simp
          have b2 : Below wr.heap.size wr y2 := hy2 ▸ b1.alloc b1.size _
          have b3 : Below wr.heap.size wr y3 := hy3 ▸ b2.alloc b2.size _
          have x1 : y1.heap[wr.heap.size]? = some (.cells #[.int .i32 a, .int .i64 b] 37) := by rw [← hy1]; exact heap_alloc_new wr _
          have x2 : y2.heap[wr.heap.size]? = some (.cells #[.int .i32 a, .int .i64 b] 37) := by rw [← hy2]; exact (Below.heap_alloc y1 _ _ (by omega)).trans x1
          have d1 : y1.cell? ⟨wr.heap.size, 0, none⟩ = some (.int .i32 a) := cell_at x1
          have d2 : y1.cell? ⟨wr.heap.size, 1, none⟩ = some (.int .i64 b) := cell_at x1
          have d3 : y2.cell? ⟨wr.heap.size, 0, none⟩ = some (.int .i32 a) := cell_at x2
          have d4 : y2.cell? ⟨wr.heap.size, 1, none⟩ = some (.int .i64 b) := cell_at x2
          have hL := (unhide HM2 y1 (hbr.trans (b1.mono hbr.size))).look Try.under69 (z := .agg #[]) Try.zeroValue70 a b hokx
          have e1 : (setF W (a, b)).getD (.agg #[]) = .agg #[] := by unfold setF; split <;> rfl
          have e2 : (setF W (a, b)).isSome = d := by rw [← hd]; unfold setF; split <;> rename_i h <;> simp [h]
          rw [e1, e2] at hL
          obtain ⟨v', y5, r5, o5, g5⟩ := append_locks 35 (own_below (own_mono hor (Nat.le_refl _)) (b3.mono (Nat.le_refl _))) (hy3 ▸ sees_oneL y2 ((a, b), d)) (by simp only [List.length_cons, List.length_nil]; omega) (Nat.le_trans hbr.size b3.size)
          have hb5 : Below w2.heap.size w2 y5 := (hbr.trans (b3.mono hbr.size)).trans ((Below.refl _ _).grown g5 (Nat.le_trans hbr.size b3.size) (own_block_le hor))
          obtain ⟨a5, k5, e5⟩ := own_shape o5
          have HF : Hid (y5.ownsRow w2.heap.size 39 3 v' (t + 1) (((K.take (t + 1)).map fun k => (k, decide (k ∈ W))).flatMap lC) ∧ Below w2.heap.size w2 y5) := ⟨by rw [htk]; exact o5, hb5⟩
          have e5' : v' = .slice a5 (t + 1) k5 := e5
          have hs2 : y2.heap.size = y2.heap.size := rfl
          subst e5' hov
          have HR5 := hide r5
          clear hkl hx hx' hcl hao hor hbr hokx hd htk hz1 b1 b2 b3 x1 x2 e1 e2 o5 g5 hb5 e5 r5 htl hs2
          go_wp2_with (first | rw [hy1] | rw [hy2] | rw [hy3] | (at_builtin; refine wpList_append_run rfl _ _ 35 35 rfl rfl rfl (unhide HR5) ?_))
          go_roundw
          case rel => exact ⟨t + 1, by omega, by go_num, (unhide HF).1, (unhide HF).2⟩
          case measure => simp [intOf]; omega
        · obtain rfl : t = kn := by omega
          have hkl := unhide HKN
          rw [List.take_of_length_le (by omega), ← unhide HKE] at hor
          have HF : Hid (wr.ownsRow w.heap.size 39 3 (.slice av1 t cv1) (lks R W).length ((lks R W).flatMap lC) ∧ Below w.heap.size w wr) := by
            refine ⟨?_, (unhide HBW).trans (hbr.mono (unhide HBW).size)⟩
            have := own_mono hor (unhide HBW).size
            rw [hov] at this
            rw [unhide HKE, List.length_map, hkl]
            rw [unhide HKE] at this
            exact this
          subst hov
          clear hkl hor hbr
          go_wp2
          go_ret
          exact ⟨_, rfl, (unhide HF).1, (unhide HF).2⟩
end Go.Proofs.Ytibjhjkeflbghaa
