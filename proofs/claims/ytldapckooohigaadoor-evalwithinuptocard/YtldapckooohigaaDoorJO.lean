/- Several texts as one. -/
import Derived.Test.YtldapckooohigaaDoorE20
import Derived.Test.YtldapckooohigaaDoorJI

/- What a run comes to, in pure terms; transactions in memory. -/
namespace Go.Proofs.YtldapckooohigaaDoor
open Go.RowKit
set_option maxRecDepth 100000

noncomputable def risB (K : List Ky) : Bool := @decide (Ris K) (Classical.propDecidable _)
theorem risB_iff (K : List Ky) : risB K = true ↔ Ris K := by unfold risB; exact @decide_eq_true_iff (Ris K) (Classical.propDecidable _)
structure Tx where
  s : Int
  r : Int
  code : List Int
  ar : List Int
  rs : List Ky
  ws : List Ky
structure Out where
  en : Int
  vs : List Int
  cs : List Ch
  st : Int
noncomputable def chkP (x : Tx) : Int := chk x.s x.r x.ar.length x.rs.length x.ws.length (risB x.rs) (risB x.ws) (dec x.code)
def tpP (x : Tx) (m : List Pr) : Tp := ⟨(dec x.code).1, x.ar, x.rs, x.ws, srtP (nedP x.rs m)⟩
def fuN (fu : Int) : Nat := (min (max fu 0) 4096).toNat
def outP (R : Mc × Int) : Out := if R.2 ≠ 0 then ⟨R.2, [], [], R.1.st⟩ else ⟨0, R.1.out, srtD R.1.wr, R.1.st⟩
noncomputable def runP (x : Tx) (m : List Pr) (fu : Int) : Out := if chkP x ≠ 0 then ⟨1, [], [], 0⟩ else outP (goP (tpP x m) (fuN fu) mc0)
structure SeesX (w : World) (x : Tx) (cv av rv wv : Value) : Prop where
  code : SeesL yC 1 w cv x.code
  byt : Byt x.code
  ar : SeesL nC 1 w av x.ar
  rs : SeesL kC 2 w rv x.rs
  ws : SeesL kC 2 w wv x.ws
  okr : ∀ k ∈ x.rs, OkK k
  okw : ∀ k ∈ x.ws, OkK k
  lr : x.rs.length ≤ 140737488351232
  lw : x.ws.length ≤ 140737488351232
theorem SeesX.below {w w' : World} {x : Tx} {cv av rv wv : Value} (h : SeesX w x cv av rv wv) (hb : Below w.heap.size w w') : SeesX w' x cv av rv wv :=
  { h with code := h.code.below yC_len hb, ar := h.ar.below nC_len hb, rs := h.rs.below kC_len hb, ws := h.ws.below kC_len hb }
theorem chk_zero {s r : Int} {nA nR nW : Nat} {bR bW : Bool} {D : List Ins × Int} (h : chk s r nA nR nW bR bW D = 0) : D.2 = 0 ∧ D.1.all (hasB nA nR nW) = true := by
  unfold chk at h
  split at h
  · cases h
  split at h
  · cases h
  split at h
  · cases h
  split at h
  · rename_i h4; exact absurd h h4
  · rename_i h4
    split at h
    · rename_i h5; exact ⟨Classical.not_not.1 h4, h5⟩
    · cases h
theorem doP_wr (P : Tp) (x : Ins) (s : Mc) : (doP P x s).1.wr.length ≤ s.wr.length + 1 := by
  have h : s.wr.length ≤ s.wr.length + 1 := Nat.le_succ _
  unfold doP
  repeat (first | exact h | (refine iteQ (fun r : Mc × Int => r.1.wr.length ≤ s.wr.length + 1) (fun _ => ?_) (fun _ => ?_)) | exact iteQ (fun r : Mc => r.wr.length ≤ s.wr.length + 1) (fun _ => h) (fun _ => h) | (simp only [wrP, List.length_append, List.length_cons, List.length_nil]; omega))
theorem goP_wr (P : Tp) : ∀ (n : Nat) (s : Mc), (goP P n s).1.wr.length ≤ s.wr.length + n
  | 0, s => by unfold goP; split <;> exact Nat.le_refl _
  | n + 1, s => by
    rcases h : P.L[s.pc]? with _ | x
    · rw [goP_end (by have := List.getElem?_eq_none_iff.1 h; omega)]
      exact Nat.le_add_right _ _
    · have h1 := doP_wr P x (onP s)
      have e : (onP s).wr = s.wr := rfl
      rw [e] at h1
      by_cases h0 : (doP P x (onP s)).2 = 0
      · rw [goP_step h h0]
        have := goP_wr P n (doP P x (onP s)).1
        omega
      · rw [goP_stop h h0]
        omega
theorem goP_out (P : Tp) : ∀ (n : Nat) (s : Mc), s.out.length ≤ 8 → (goP P n s).1.out.length ≤ 8
  | 0, s, h => by unfold goP; split <;> exact h
  | n + 1, s, h => by
    rcases hx : P.L[s.pc]? with _ | x
    · rw [goP_end (by have := List.getElem?_eq_none_iff.1 hx; omega)]
      exact h
    · have h1 := doP_out P x (onP s) h
      by_cases h0 : (doP P x (onP s)).2 = 0
      · rw [goP_step hx h0]
        exact goP_out P n _ h1
      · rw [goP_stop hx h0]
        exact h1
theorem goP_st (P : Tp) : ∀ (n : Nat) (s : Mc), s.st ≤ (goP P n s).1.st ∧ (goP P n s).1.st ≤ s.st + n
  | 0, s => by unfold goP; split <;> exact ⟨Nat.le_refl _, Nat.le_refl _⟩
  | n + 1, s => by
    rcases hx : P.L[s.pc]? with _ | x
    · rw [goP_end (by have := List.getElem?_eq_none_iff.1 hx; omega)]
      exact ⟨Nat.le_refl _, by simp⟩
    · have h1 : (doP P x (onP s)).1.st = s.st + 1 := doP_st P x (onP s)
      by_cases h0 : (doP P x (onP s)).2 = 0
      · rw [goP_step hx h0]
        have := goP_st P n (doP P x (onP s)).1
        omega
      · rw [goP_stop hx h0]
        omega
end Go.Proofs.YtldapckooohigaaDoor

/- Run. -/
namespace Go.Proofs.YtldapckooohigaaDoor
open Go.RowKit
set_option maxRecDepth 100000

theorem check_tx {w : World} (hT : Tab w) {x : Tx} {cv av rv wv : Value} (hx : SeesX w x cv av rv wv) :
    Calls Tryd.prog 27 #[.agg #[.int .i64 x.s, .int .i64 x.r, cv, av, rv, wv]] w fun e w' => e = .returned (.int .i64 (chkP x)) ∧ Below w.heap.size w w' := by
  obtain ⟨a1, c1, h1⟩ := hx.code.shape
  obtain ⟨a2, c2, h2⟩ := hx.ar.shape
  obtain ⟨a3, c3, h3⟩ := hx.rs.shape
  obtain ⟨a4, c4, h4⟩ := hx.ws.shape
  have k1 := hx.code
  have k3 := hx.rs
  have k4 := hx.ws
  rw [h1] at k1
  rw [h3] at k3
  rw [h4] at k4
  rw [h1, h2, h3, h4]
  exact check_any x.s x.r a1 a2 a3 a4 _ _ _ _ c1 c2 c3 c4 (risB x.rs) (risB x.ws) hT k1 hx.byt k3 k4 (risB_iff _) (risB_iff _) hx.lr hx.lw
/-- begin and goOn, one behind the other. -/
theorem runOf_tx {w : World} {x : Tx} {cv av rv wv lv : Value} (hx : SeesX w x cv av rv wv) {m : List Pr} (hok : ∀ p ∈ m, OkK p.1) {mr mw : Nat} : RunOf w (envB x.s x.r cv av rv wv lv (plN (dec x.code).1 (dec x.code).1.length) mr mw) (tpP x m) :=
  { pll := plN_len _ _
    ars := hx.ar
    rss := hx.rs
    wss := hx.ws
    okr := hx.okr
    okw := hx.okw
    okv := fun k hk => by
      obtain ⟨p, hp, rfl⟩ := List.mem_map.1 hk
      exact srtP_ok (fun p hp => hok p (List.mem_filter.1 hp).1) p hp
    nd := rises_nodup (srtP_spec _).1 }
theorem set4 {z : World} {g : Nat} {a0 a1 a2 a3 : Value} {T : TypeId} (h : z.heap[g]? = some (.cells #[a0, a1, a2, a3] T)) (b0 b1 b2 b3 : Value) :
    ((((z.setCell ⟨g, 0, none⟩ b0).setCell ⟨g, 1, none⟩ b1).setCell ⟨g, 2, none⟩ b2).setCell ⟨g, 3, none⟩ b3).heap[g]? = some (.cells #[b0, b1, b2, b3] T) := by
  have h0 := heap_setCell_same z g 0 _ T b0 h
  have h1 := heap_setCell_same _ g 1 _ T b1 h0
  have h2 := heap_setCell_same _ g 2 _ T b2 h1
  have h3 := heap_setCell_same _ g 3 _ T b3 h2
  simpa using h3
theorem set4_below {B : Nat} {w z : World} {g : Nat} (h : Below B w z) (hg : B ≤ g) (b0 b1 b2 b3 : Value) : Below B w ((((z.setCell ⟨g, 0, none⟩ b0).setCell ⟨g, 1, none⟩ b1).setCell ⟨g, 2, none⟩ b2).setCell ⟨g, 3, none⟩ b3) :=
  (((h.setCell hg _).setCell hg _).setCell hg _).setCell hg _
theorem set4_own {z : World} {g : Nat} {cs : Array Value} {T : TypeId} (h : z.heap[g]? = some (.cells cs T)) (b0 b1 b2 b3 : Value) {base e size n : Nat} {v : Value} {xs : List Value} (ho : z.ownsRow base e size v n xs) (hT : e ≠ T) :
    ((((z.setCell ⟨g, 0, none⟩ b0).setCell ⟨g, 1, none⟩ b1).setCell ⟨g, 2, none⟩ b2).setCell ⟨g, 3, none⟩ b3).ownsRow base e size v n xs :=
  own_apart ho h hT fun j hj => by rw [heap_setCell_other _ _ _ _ hj, heap_setCell_other _ _ _ _ hj, heap_setCell_other _ _ _ _ hj, heap_setCell_other _ _ _ _ hj]
theorem run_end {w z3 z4 : World} {R : Mc × Int} {oa xa : Option Addr} {oc xc : Nat} {D' : List Ch} {b1 b2 : Nat} (hw1 : w.heap.size ≤ b1) (hw2 : w.heap.size ≤ b2) (ho : z3.ownsRow b1 2 1 (.slice oa R.1.out.length oc) R.1.out.length (R.1.out.flatMap nC)) (hz : Below z3.heap.size z3 z4)
    (hq : z4.ownsRow b2 40 4 (.slice xa D'.length xc) D'.length (D'.flatMap chC) ∧ RisesC D' ∧ D'.Perm (ddD R.1.wr)) (hb : Below w.heap.size w z4) (hr : z4.heap[w.heap.size + 1]? = some (.cells #[.int .i64 0, .slice none 0 0, .slice none 0 0, .int .i64 0] 51)) :
    ∃ vv hv, Ending.returned (.agg #[.int .i64 0, .slice oa R.1.out.length oc, .slice xa D'.length xc, .int .i64 (R.1.st : Int)]) = .returned (.agg #[.int .i64 0, vv, hv, .int .i64 (R.1.st : Int)]) ∧
      ((((z4.setCell ⟨w.heap.size + 1, 0, none⟩ (.int .i64 0)).setCell ⟨w.heap.size + 1, 1, none⟩ (.slice oa R.1.out.length oc)).setCell ⟨w.heap.size + 1, 2, none⟩ (.slice xa D'.length xc)).setCell ⟨w.heap.size + 1, 3, none⟩ (.int .i64 (R.1.st : Int))).ownsRow w.heap.size 2 1 vv R.1.out.length (R.1.out.flatMap nC) ∧
      ((((z4.setCell ⟨w.heap.size + 1, 0, none⟩ (.int .i64 0)).setCell ⟨w.heap.size + 1, 1, none⟩ (.slice oa R.1.out.length oc)).setCell ⟨w.heap.size + 1, 2, none⟩ (.slice xa D'.length xc)).setCell ⟨w.heap.size + 1, 3, none⟩ (.int .i64 (R.1.st : Int))).ownsRow w.heap.size 40 4 hv (srtD R.1.wr).length ((srtD R.1.wr).flatMap chC) ∧
      Below w.heap.size w ((((z4.setCell ⟨w.heap.size + 1, 0, none⟩ (.int .i64 0)).setCell ⟨w.heap.size + 1, 1, none⟩ (.slice oa R.1.out.length oc)).setCell ⟨w.heap.size + 1, 2, none⟩ (.slice xa D'.length xc)).setCell ⟨w.heap.size + 1, 3, none⟩ (.int .i64 (R.1.st : Int))) := by
  obtain ⟨q1, q2, q3⟩ := hq
  have e := ddD_sorted q3 q2
  refine ⟨_, _, rfl, own_mono (set4_own hr _ _ _ _ (own_below ho hz) (by decide)) hw1, ?_, set4_below hb (Nat.le_succ _) _ _ _ _⟩
  rw [← e]
  exact own_mono (set4_own hr _ _ _ _ q1 (by decide)) hw2
set_option maxHeartbeats 3200000 in
theorem run_any {w : World} (hT : Tab w) (x : Tx) {cv av rv wv mv : Value} (hx : SeesX w x cv av rv wv) {m : List Pr} (hm : SeesL pC 3 w mv m) (hok : ∀ p ∈ m, OkK p.1) (hll : m.length ≤ 5864062014805) (fu : Int) :
    Calls Tryd.prog 23 #[.agg #[.int .i64 x.s, .int .i64 x.r, cv, av, rv, wv], mv, .int .i64 fu] w fun e w' => ∃ vv hv, e = .returned (.agg #[.int .i64 (runP x m fu).en, vv, hv, .int .i64 (runP x m fu).st]) ∧ w'.ownsRow w.heap.size 2 1 vv (runP x m fu).vs.length ((runP x m fu).vs.flatMap nC) ∧ w'.ownsRow w.heap.size 40 4 hv (runP x m fu).cs.length ((runP x m fu).cs.flatMap chC) ∧ Below w.heap.size w w' := by
  obtain ⟨w1, hw1⟩ : ∃ y, (w.alloc (.cells #[.int .i64 x.s, .int .i64 x.r, cv, av, rv, wv] 35)).alloc (.cells #[.int .i64 0, .slice none 0 0, .slice none 0 0, .int .i64 0] 51) = y := ⟨_, rfl⟩
  have hb1 : Below w.heap.size w w1 := hw1 ▸ (below_box _).alloc (by simp) _
  have hx1 : w1.heap[w.heap.size]? = some (.cells #[.int .i64 x.s, .int .i64 x.r, cv, av, rv, wv] 35) := by rw [← hw1]; exact (Below.heap_alloc _ _ _ (by simp)).trans (heap_alloc_new w _)
  have hx2 : w1.heap[w.heap.size + 1]? = some (.cells #[.int .i64 0, .slice none 0 0, .slice none 0 0, .int .i64 0] 51) := by rw [← hw1]; have := heap_alloc_new (w.alloc (.cells #[.int .i64 x.s, .int .i64 x.r, cv, av, rv, wv] 35)) (.cells #[.int .i64 0, .slice none 0 0, .slice none 0 0, .int .i64 0] 51); simpa using this
  have hz1 : w1.heap.size = w.heap.size + 2 := by rw [← hw1]; simp
  have HC : Hid (∀ z, Below w1.heap.size w1 z → (z.cell? ⟨w.heap.size, 0, none⟩ = some (.int .i64 x.s) ∧ z.cell? ⟨w.heap.size, 1, none⟩ = some (.int .i64 x.r) ∧ z.cell? ⟨w.heap.size, 2, none⟩ = some cv ∧ z.cell? ⟨w.heap.size, 3, none⟩ = some av ∧ z.cell? ⟨w.heap.size, 4, none⟩ = some rv ∧ z.cell? ⟨w.heap.size, 5, none⟩ = some wv) ∧ z.heap[w.heap.size + 1]? = some (.cells #[.int .i64 0, .slice none 0 0, .slice none 0 0, .int .i64 0] 51)) := fun z hz => by
    have hxz : z.heap[w.heap.size]? = some (.cells #[.int .i64 x.s, .int .i64 x.r, cv, av, rv, wv] 35) := (hz.block _ (by omega)).trans hx1
    exact ⟨⟨cell_at hxz, cell_at hxz, cell_at hxz, cell_at hxz, cell_at hxz, cell_at hxz⟩, (hz.block _ (by omega)).trans hx2⟩
  obtain ⟨⟨c0, c1, c2, c3, c4, c5⟩, hr1⟩ := unhide HC w1 (Below.refl _ _)
  have r0 : w1.cell? ⟨w.heap.size + 1, 0, none⟩ = some (.int .i64 0) := cell_at hr1
  have r1 : w1.cell? ⟨w.heap.size + 1, 1, none⟩ = some (.slice none 0 0) := cell_at hr1
  have r2 : w1.cell? ⟨w.heap.size + 1, 2, none⟩ = some (.slice none 0 0) := cell_at hr1
  have r3 : w1.cell? ⟨w.heap.size + 1, 3, none⟩ = some (.int .i64 0) := cell_at hr1
  have HCK : Hid (Calls Tryd.prog 27 #[.agg #[.int .i64 x.s, .int .i64 x.r, cv, av, rv, wv]] w1 fun e w' => e = .returned (.int .i64 (chkP x)) ∧ Below w1.heap.size w1 w') := check_tx (hT.below hb1 hT.pos) (hx.below hb1)
  have HBG : Hid (∀ z, Below w1.heap.size w1 z → Calls Tryd.prog 38 #[.agg #[.int .i64 x.s, .int .i64 x.r, cv, av, rv, wv], mv] z fun e w' => ∃ b mr mw lv, e = .returned (.pointer (some ⟨b, 0, none⟩)) ∧ RunIs z b (envB x.s x.r cv av rv wv lv (plN (dec x.code).1 (dec x.code).1.length) mr mw) (tpP x m) mc0 nilV w') := fun z hz => by
    have hbz : Below w.heap.size w z := hb1.trans (hz.mono hb1.size)
    have hxz := hx.below hbz
    exact begin_any (hT.below hbz hT.pos) hxz.code hx.byt hxz.rs hx.okr (hm.below pC_len hbz) hok hll
  have HGO : Hid (chkP x = 0 → ∀ z b lv mr mw z1, Below w1.heap.size w1 z → RunIs z b (envB x.s x.r cv av rv wv lv (plN (dec x.code).1 (dec x.code).1.length) mr mw) (tpP x m) mc0 nilV z1 → Calls Tryd.prog 39 #[.pointer (some ⟨b, 0, none⟩), .int .i64 (fuN fu : Int)] z1 fun e w' => ∃ ov', e = .returned (.int .i64 (goP (tpP x m) (fuN fu) mc0).2) ∧ RunIs z b (envB x.s x.r cv av rv wv lv (plN (dec x.code).1 (dec x.code).1.length) mr mw) (tpP x m) (goP (tpP x m) (fuN fu) mc0).1 ov' w') := fun h0 z b lv mr mw z1 hz hr => by
    have hbz : Below w.heap.size w z := hb1.trans (hz.mono hb1.size)
    obtain ⟨hd, hall⟩ := chk_zero h0
    refine go_any hr (runOf_tx (hx.below hbz) hok) (okX_of (code := x.code) hx.byt hd rfl rfl hall) (by simp [mc0]) (fuN fu) (by unfold fuN; omega) (Nat.zero_le _) (dec_okI hx.byt hd).2
  have HB1 := hide hb1
  have HZ1 := hide hz1
  have HW1 := hide hw1
  have hfu : (fuN fu : Int) = min (max fu 0) 4096 := by unfold fuN; omega
  obtain ⟨K, hK⟩ : ∃ K, chkP x = K := ⟨_, rfl⟩
  clear hb1 hx1 hx2 hz1 hw1 hx hm hT hr1
  by_cases hK0 : K = 0
  · subst hK0
    rw [hK] at HCK
    have HG0 := hide (unhide HGO hK)
    have hR : runP x m fu = outP (goP (tpP x m) (fuN fu) mc0) := by unfold runP; rw [if_neg (by rw [hK]; exact fun h => h rfl)]
    rw [hR]
    have hst := goP_st (tpP x m) (fuN fu) mc0
    have hwr := goP_wr (tpP x m) (fuN fu) mc0
    have hfb : fuN fu ≤ 4096 := by unfold fuN; omega
    obtain ⟨R, hRR⟩ : ∃ R, goP (tpP x m) (fuN fu) mc0 = R := ⟨_, rfl⟩
    rw [hRR] at HG0 hst hwr ⊢
    have HBD : Hid (R.1.wr.length ≤ 4096) := by show _ ≤ _; have : mc0.wr.length = 0 := rfl; omega
    rw [hfu] at HG0
    clear hK hR HGO hRR hst hwr hfu hfb
    by_cases h0 : R.2 = 0
    · have g0 : (R.2 != 0) = false := by simpa using h0
      have e : outP R = ⟨0, R.1.out, srtD R.1.wr, R.1.st⟩ := by unfold outP; rw [if_neg (fun h => h h0)]
      rw [e]
      clear e
      go_enter Tryd.func23, Tryd.ntmps23
      go_wp2_with (first | rw [unhide HW1] | (go_at_call 27; refine (unhide HCK).mono ?_; rintro e z1 ⟨rfl, hz⟩; obtain ⟨⟨c0, c1, c2, c3, c4, c5⟩, hr1⟩ := unhide HC z1 hz; have HBZ := hide hz; clear hz hr1) | (go_at_call 38; refine (unhide HBG _ (unhide HBZ)).mono ?_; rintro e z2 ⟨b, mr, mw, lv, rfl, hrun⟩; have HRN := hide hrun; clear hrun) | (go_at_call 39; refine (unhide HG0 _ _ _ _ _ _ (unhide HBZ) (unhide HRN)).mono ?_; rintro e z3 ⟨ov, rfl, h3⟩; obtain ⟨oa, oc, rfl⟩ := own_shape h3.out; have hp := plN_len (dec x.code).1 (dec x.code).1.length; have c520 : z3.cell? ⟨b, 520, none⟩ = some (.int .i64 (R.1.st : Int)) := (h3.cell _).trans (rC_st hp); have c531 : z3.cell? ⟨b, 531, none⟩ = some (.slice oa R.1.out.length oc) := (h3.cell _).trans (rC_end hp h3.rgl (by omega)); have c530 : z3.cell? ⟨b, 530, none⟩ = some (.map (some mw)) := (h3.cell _).trans (rC_end hp h3.rgl (by omega)); have hb3 : Below w1.heap.size w1 z3 := (unhide HBZ).trans (h3.bel.mono (unhide HBZ).size); have hr1 := (unhide HC z3 hb3).2; have r0 : z3.cell? ⟨w.heap.size + 1, 0, none⟩ = some (.int .i64 0) := cell_at hr1; have r1 : z3.cell? ⟨w.heap.size + 1, 1, none⟩ = some (.slice none 0 0) := cell_at hr1; have r2 : z3.cell? ⟨w.heap.size + 1, 2, none⟩ = some (.slice none 0 0) := cell_at hr1; have r3 : z3.cell? ⟨w.heap.size + 1, 3, none⟩ = some (.int .i64 0) := cell_at hr1; have hf : ∀ o, z3.frozen? ⟨w.heap.size + 1, o, none⟩ = false := fun o => frozen_of_heap hr1; have f0 := hf 0; have f1 := hf 1; have f2 := hf 2; have f3 := hf 3; have HB3 := hide hb3; have H3 := hide h3; clear h3 hp hb3 hr1 hf))
      have HRS := hide (fun (z : World) (hz : Below z3.heap.size z3 z) => rising_any ((unhide H3).grew hz).wmap (ddD_spec _).1 (by have h1 := (ddD_spec R.1.wr).2.2; have h2 := unhide HBD; omega))
      have HFF : Hid (∀ z, Below z3.heap.size z3 z → (z.cell? ⟨b, 520, none⟩ = some (.int .i64 (R.1.st : Int)) ∧ z.cell? ⟨b, 531, none⟩ = some (.slice oa R.1.out.length oc)) ∧ z.heap[w.heap.size + 1]? = some (.cells #[.int .i64 0, .slice none 0 0, .slice none 0 0, .int .i64 0] 51)) := fun z hz => ⟨⟨(hz.cell (World.block_lt_of_cell? z3 _ c520)).trans c520, (hz.cell (World.block_lt_of_cell? z3 _ c531)).trans c531⟩, (unhide HC z ((unhide HB3).trans (hz.mono (unhide HB3).size))).2⟩
      go_region_with (go_at_call 32; refine (unhide HRS _ (by first | exact (Below.refl _ _).drew | exact (Below.refl _ _).drew.drew | exact Below.drewN (Below.refl _ _) _ | exact Below.refl _ _)).mono ?_; rintro e z4 ⟨xr, D', rfl, hq⟩; obtain ⟨xa, xc, rfl⟩ := own_shape hq.1; have hz4 : Below z3.heap.size z3 z4 := Below.trans (by first | exact (Below.refl _ _).drew | exact (Below.refl _ _).drew.drew | exact Below.drewN (Below.refl _ _) _ | exact Below.refl _ _) (hq.2.2.2.mono (by simp)); obtain ⟨⟨s520, s531⟩, hr4⟩ := unhide HFF z4 hz4; have t0 : z4.cell? ⟨w.heap.size + 1, 0, none⟩ = some (.int .i64 0) := cell_at hr4; have t1 : z4.cell? ⟨w.heap.size + 1, 1, none⟩ = some (.slice none 0 0) := cell_at hr4; have t2 : z4.cell? ⟨w.heap.size + 1, 2, none⟩ = some (.slice none 0 0) := cell_at hr4; have t3 : z4.cell? ⟨w.heap.size + 1, 3, none⟩ = some (.int .i64 0) := cell_at hr4; have hf : ∀ o, z4.frozen? ⟨w.heap.size + 1, o, none⟩ = false := fun o => frozen_of_heap hr4; have f0 := hf 0; have f1 := hf 1; have f2 := hf 2; have f3 := hf 3; have HQ := hide hq; have HB4 := hide hz4; clear hq hz4 hr4 hf)
      all_goals
        go_wp2
        have hz3 := unhide HB3
        have hzw3 := (unhide HB1).trans (hz3.mono (unhide HB1).size)
        have hz4 := unhide HB4
        have hzw4 := hzw3.trans (hz4.mono hzw3.size)
        have hz1 := unhide HBZ
        have hzw1 := (unhide HB1).trans (hz1.mono (unhide HB1).size)
        have hq := unhide HQ
        have hr4 := (unhide HC z4 (hz3.trans (hz4.mono hz3.size))).2
        exact bodyPost_ret (results_cell_row rfl _ _ (w.heap.size + 1) 51 _ (0, 0) _ rfl (set4 hr4 _ _ _ _) Tryd.underlying51 rfl (by kernel_rfl)) rfl (run_end hzw1.size (by have := hzw3.size; exact this) (unhide H3).out hz4 ⟨hq.1, hq.2.1, hq.2.2.1⟩ hzw4 hr4)
    · have g0 : (R.2 != 0) = true := by simpa using h0
      have e : outP R = ⟨R.2, [], [], R.1.st⟩ := by unfold outP; rw [if_pos h0]
      rw [e]
      clear e
      go_enter Tryd.func23, Tryd.ntmps23
      go_wp2_with (first | rw [unhide HW1] | (go_at_call 27; refine (unhide HCK).mono ?_; rintro e z1 ⟨rfl, hz⟩; obtain ⟨⟨c0, c1, c2, c3, c4, c5⟩, hr1⟩ := unhide HC z1 hz; have HBZ := hide hz; clear hz hr1) | (go_at_call 38; refine (unhide HBG _ (unhide HBZ)).mono ?_; rintro e z2 ⟨b, mr, mw, lv, rfl, hrun⟩; have HRN := hide hrun; clear hrun) | (go_at_call 39; refine (unhide HG0 _ _ _ _ _ _ (unhide HBZ) (unhide HRN)).mono ?_; rintro e z3 ⟨ov, rfl, h3⟩; obtain ⟨oa, oc, rfl⟩ := own_shape h3.out; have hp := plN_len (dec x.code).1 (dec x.code).1.length; have c520 : z3.cell? ⟨b, 520, none⟩ = some (.int .i64 (R.1.st : Int)) := (h3.cell _).trans (rC_st hp); have c531 : z3.cell? ⟨b, 531, none⟩ = some (.slice oa R.1.out.length oc) := (h3.cell _).trans (rC_end hp h3.rgl (by omega)); have c530 : z3.cell? ⟨b, 530, none⟩ = some (.map (some mw)) := (h3.cell _).trans (rC_end hp h3.rgl (by omega)); have hb3 : Below w1.heap.size w1 z3 := (unhide HBZ).trans (h3.bel.mono (unhide HBZ).size); have hr1 := (unhide HC z3 hb3).2; have r0 : z3.cell? ⟨w.heap.size + 1, 0, none⟩ = some (.int .i64 0) := cell_at hr1; have r1 : z3.cell? ⟨w.heap.size + 1, 1, none⟩ = some (.slice none 0 0) := cell_at hr1; have r2 : z3.cell? ⟨w.heap.size + 1, 2, none⟩ = some (.slice none 0 0) := cell_at hr1; have r3 : z3.cell? ⟨w.heap.size + 1, 3, none⟩ = some (.int .i64 0) := cell_at hr1; have hf : ∀ o, z3.frozen? ⟨w.heap.size + 1, o, none⟩ = false := fun o => frozen_of_heap hr1; have f0 := hf 0; have f1 := hf 1; have f2 := hf 2; have f3 := hf 3; have HB3 := hide hb3; have H3 := hide h3; clear h3 hp hb3 hr1 hf))
      have hz := unhide HB3
      have hg := (unhide HB1).trans (hz.mono (unhide HB1).size)
      have hfin := set4_below hg (Nat.le_succ _) (.int .i64 R.2) (.slice none 0 0) (.slice none 0 0) (.int .i64 (R.1.st : Int))
      exact bodyPost_ret (results_cell_row rfl _ _ (w.heap.size + 1) 51 _ (0, 0) _ rfl (set4 (unhide HC z3 hz).2 _ _ _ _) Tryd.underlying51 rfl (by kernel_rfl)) rfl ⟨_, _, rfl, own_nil _ _ _ _, own_nil _ _ _ _, hfin⟩
  · have g0 : (K != 0) = true := by simpa using hK0
    have hR : runP x m fu = ⟨1, [], [], 0⟩ := by unfold runP; rw [if_pos (by rw [hK]; exact hK0)]
    rw [hR]
    rw [hK] at HCK
    clear hK hfu hR
    go_enter Tryd.func23, Tryd.ntmps23
    go_wp2_with (first | rw [unhide HW1] | (go_at_call 27; refine (unhide HCK).mono ?_; rintro e z1 ⟨rfl, hz⟩; obtain ⟨⟨c0, c1, c2, c3, c4, c5⟩, hr1⟩ := unhide HC z1 hz; have r0 : z1.cell? ⟨w.heap.size + 1, 0, none⟩ = some (.int .i64 0) := cell_at hr1; have r1 : z1.cell? ⟨w.heap.size + 1, 1, none⟩ = some (.slice none 0 0) := cell_at hr1; have r2 : z1.cell? ⟨w.heap.size + 1, 2, none⟩ = some (.slice none 0 0) := cell_at hr1; have r3 : z1.cell? ⟨w.heap.size + 1, 3, none⟩ = some (.int .i64 0) := cell_at hr1; have hf : ∀ o, z1.frozen? ⟨w.heap.size + 1, o, none⟩ = false := fun o => frozen_of_heap hr1; have f0 := hf 0; have f1 := hf 1; have f2 := hf 2; have f3 := hf 3; have HBZ := hide hz; clear hz hr1 hf))
    have hz := unhide HBZ
    have hg := (unhide HB1).trans (hz.mono (unhide HB1).size)
    have hfin := set4_below hg (Nat.le_succ _) (.int .i64 1) (.slice none 0 0) (.slice none 0 0) (.int .i64 0)
    exact bodyPost_ret (results_cell_row rfl _ _ (w.heap.size + 1) 51 _ (0, 0) _ rfl (set4 (unhide HC z1 hz).2 _ _ _ _) Tryd.underlying51 rfl (by kernel_rfl)) rfl ⟨_, _, rfl, own_nil _ _ _ _, own_nil _ _ _ _, hfin⟩
end Go.Proofs.YtldapckooohigaaDoor
