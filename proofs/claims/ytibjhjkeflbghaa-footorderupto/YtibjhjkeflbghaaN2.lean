/- What a transaction may touch: the program's Of, its first part. -/
import Derived.Test.YtibjhjkeflbghaaN3
import Derived.Deep.DeepCutAuto
namespace Go.Proofs.Ytibjhjkeflbghaa
open Go.RowKit
set_option maxRecDepth 100000

theorem store_upon {P : Program} {o : Oper} {a : Act} {w : World} {K : Act → World → Prop} {Q : Exit → Act → World → Prop} {ty : TypeId} {x y : Operand} (ho : o.op = .store ty x y)
    {g : Nat} {old cells : Array Value} (hx : a.eval x = .pointer (some ⟨g, 0, none⟩)) (hy : a.eval y = .agg cells) {t : TypeId} (hg : w.heap[g]? = some (.cells old t (0, 0)))
    (hi : (P.info? ty).map (·.size) = some cells.size) (hs : old.size = cells.size) (h1 : cells.all (·.oneCell') = true) (h : K (a.put o.dst undef) (w.setRow g cells)) : Oper.wp P o a w K Q := by
  unfold Oper.wp execOp
  simp only [ho, hx, hy, Instr.storeAt, Instr.sureAddr, Sem.run_bind, Sem.run_pure, Result.andThen_ok, run_storeVar_row w g t ty old cells hg hi hs h1]
  exact h
theorem rows8_lit {base : Nat} {w : World} {f : Nat → List Ky} {rows : List Value} (h : Rows8 base w f rows) : ∃ (a : Nat → Option Addr) (c : Nat → Nat), rows = litR a (fun p => (f p).length) c := by
  have hp : ∀ p, p < 8 → ∃ q : Option Addr × Nat, rows[p]? = some (.slice q.1 (f p).length q.2) := fun p hp => by
    have hlt : p < rows.length := by rw [h.1]; exact hp
    obtain ⟨ao, cap, e⟩ := own_shape (h.2.1 p rows[p] (List.getElem?_eq_getElem hlt))
    exact ⟨(ao, cap), by rw [List.getElem?_eq_getElem hlt, e]⟩
  obtain ⟨q, hq⟩ : ∃ q : Nat → Option Addr × Nat, ∀ p, p < 8 → rows[p]? = some (.slice (q p).1 (f p).length (q p).2) := ⟨fun p => if h : p < 8 then (hp p h).choose else (none, 0), fun p h => by simp only [dif_pos h]; exact (hp p h).choose_spec⟩
  refine ⟨fun p => (q p).1, fun p => (q p).2, List.ext_getElem? fun p => ?_⟩
  by_cases h8 : p < 8
  · rw [hq p h8, litR_at _ _ _ h8]
  · rw [List.getElem?_eq_none (by rw [h.1]; omega), List.getElem?_eq_none (by show 8 ≤ p; omega)]
theorem fsplit_lit {v : Value} {l : List Ky} {w : World} (n : Int) {L : Nat → Nat} (hL : (fun p => (inP n (srt l) p).length) = L) (hs : SeesL kC 2 w v l) (hok : ∀ k ∈ l, OkK k) (hll : l.length ≤ 8796093021952) :
    Calls Try.prog 36 #[.int .i64 n, v] w fun e w' => ∃ a c, e = .returned (.agg #[.slice (a 0) (L 0) (c 0), .slice (a 1) (L 1) (c 1), .slice (a 2) (L 2) (c 2), .slice (a 3) (L 3) (c 3), .slice (a 4) (L 4) (c 4), .slice (a 5) (L 5) (c 5), .slice (a 6) (L 6) (c 6), .slice (a 7) (L 7) (c 7)]) ∧ Rows8 w.heap.size w' (inP n (srt l)) (litR a L c) ∧ Below w.heap.size w w' :=
  (fsplit_any n hs hok hll).mono fun e w' ⟨rows, he, h8, hb⟩ => by
    obtain ⟨a, c, hr⟩ := rows8_lit h8
    subst hL
    exact ⟨a, c, by rw [he, hr]; rfl, hr ▸ h8, hb⟩
/-- Where Of stands once the keys are split. -/
def OfS (n : Int) (R W : List Ky) (L L' : Nat → Nat) (Y : World) (p : Value) (z : World) : Prop :=
  ∃ b a c a' c', p = .pointer (some ⟨b, 0, none⟩) ∧ Y.heap.size ≤ b ∧ FtS Y.heap.size b (inP n (srt R)) (inP n (srt W)) a L c a' L' c' (.slice none 0 0) (.slice none 0 0) [] [] z ∧ Below Y.heap.size Y z
theorem OfS.fin {n : Int} {R W : List Ky} {L L' : Nat → Nat} {Y z : World} {b : Nat} {a c a' c'} (hb : Y.heap.size ≤ b) (hz : z.heap[b]? = some (.cells nil18 32)) (h1 : Rows8 Y.heap.size z (inP n (srt R)) (litR a L c)) (h2 : Rows8 Y.heap.size z (inP n (srt W)) (litR a' L' c')) (hbe : Below Y.heap.size Y z) :
    OfS n R W L L' Y (.pointer (some ⟨b, 0, none⟩)) (z.setRow b (ftC a L c a' L' c' (.slice none 0 0) (.slice none 0 0))) := by
  have hj : ∀ j, j ≠ b → (z.setRow b (ftC a L c a' L' c' (.slice none 0 0) (.slice none 0 0))).heap[j]? = z.heap[j]? := fun j hj => setRow_other _ _ _ _ hj
  exact ⟨b, a, c, a', c', rfl, hb, ⟨by rw [setRow_heap z b _ _ 32 (0, 0) hz], h1.box hz hj, h2.box hz hj, own_nil _ _ _ _, own_nil _ _ _ _⟩, below_setRow hbe hb⟩
/-- A footprint of which the partitions are known, somewhere. -/
def FtZ (b : Nat) (f f' : Nat → List Ky) (a : Nat → Option Addr) (L c : Nat → Nat) (a' : Nat → Option Addr) (L' c' : Nat → Nat) (pl tl : List Int) (Y z : World) : Prop := ∃ pv tv, FtS Y.heap.size b f f' a L c a' L' c' pv tv pl tl z ∧ Below Y.heap.size Y z
/-- What Of tells. -/
structure FtV (B : Nat) (f f' : Nat → List Ky) (a : Nat → Option Addr) (L c : Nat → Nat) (a' : Nat → Option Addr) (L' c' : Nat → Nat) (pv tv : Value) (pl tl : List Int) (z : World) : Prop where
  rd : Rows8 B z f (litR a L c)
  wt : Rows8 B z f' (litR a' L' c')
  ps : z.ownsRow B 3 1 pv pl.length (pl.flatMap nC)
  ts : z.ownsRow B 3 1 tv tl.length (tl.flatMap nC)
theorem info30s : (Try.prog.info? 30).map (·.size) = some 1 := by kernel_rfl
theorem two_range {z : World} {g : Nat} {a : Nat → Option Addr} {L c : Nat → Nat} {a' : Nat → Option Addr} {L' c' : Nat → Nat} (h : z.heap[g]? = some (.cells #[.slice (a 0) (L 0) (c 0), .slice (a 1) (L 1) (c 1), .slice (a 2) (L 2) (c 2), .slice (a 3) (L 3) (c 3), .slice (a 4) (L 4) (c 4), .slice (a 5) (L 5) (c 5), .slice (a 6) (L 6) (c 6), .slice (a 7) (L 7) (c 7), .slice (a' 0) (L' 0) (c' 0), .slice (a' 1) (L' 1) (c' 1), .slice (a' 2) (L' 2) (c' 2), .slice (a' 3) (L' 3) (c' 3), .slice (a' 4) (L' 4) (c' 4), .slice (a' 5) (L' 5) (c' 5), .slice (a' 6) (L' 6) (c' 6), .slice (a' 7) (L' 7) (c' 7)] 29)) : z.rangeAt g 0 (litR a L c) ∧ z.rangeAt g 8 (litR a' L' c') := by
  constructor
  · intro j v hj
    have hlt : j < 8 := (List.getElem?_eq_some_iff.1 hj).1
    rw [litR_at _ _ _ hlt] at hj
    rw [cell_at h, ← hj]
    rcases (by omega : j = 0 ∨ j = 1 ∨ j = 2 ∨ j = 3 ∨ j = 4 ∨ j = 5 ∨ j = 6 ∨ j = 7) with rfl | rfl | rfl | rfl | rfl | rfl | rfl | rfl <;> rfl
  · intro j v hj
    have hlt : j < 8 := (List.getElem?_eq_some_iff.1 hj).1
    rw [litR_at _ _ _ hlt] at hj
    rw [cell_at h, ← hj]
    rcases (by omega : j = 0 ∨ j = 1 ∨ j = 2 ∨ j = 3 ∨ j = 4 ∨ j = 5 ∨ j = 6 ∨ j = 7) with rfl | rfl | rfl | rfl | rfl | rfl | rfl | rfl <;> rfl
theorem one_range {z : World} {g : Nat} {a : Nat → Option Addr} {L c : Nat → Nat} (h : z.heap[g]? = some (.cells #[.slice (a 0) (L 0) (c 0), .slice (a 1) (L 1) (c 1), .slice (a 2) (L 2) (c 2), .slice (a 3) (L 3) (c 3), .slice (a 4) (L 4) (c 4), .slice (a 5) (L 5) (c 5), .slice (a 6) (L 6) (c 6), .slice (a 7) (L 7) (c 7)] 29)) : z.rangeAt g 0 (litR a L c) := by
  intro j v hj
  have hlt : j < 8 := (List.getElem?_eq_some_iff.1 hj).1
  rw [litR_at _ _ _ hlt] at hj
  rw [cell_at h, ← hj]
  rcases (by omega : j = 0 ∨ j = 1 ∨ j = 2 ∨ j = 3 ∨ j = 4 ∨ j = 5 ∨ j = 6 ∨ j = 7) with rfl | rfl | rfl | rfl | rfl | rfl | rfl | rfl <;> rfl

set_option maxHeartbeats 1600000 in
theorem of_any {x : Tx} {w : World} (n : Int) (hx : SeesX w x) :
    Calls Try.prog 11 #[xV x, .int .i64 n] w fun e w' => ∃ a c a' c' pv tv, e = .returned (.agg (ftC a (fun p => (inP n (srt x.rs) p).length) c a' (fun p => (inP n (srt x.ws) p).length) c' pv tv)) ∧ FtV w.heap.size (inP n (srt x.rs)) (inP n (srt x.ws)) a (fun p => (inP n (srt x.rs) p).length) c a' (fun p => (inP n (srt x.ws) p).length) c' pv tv (ptsL (fun p => (inP n (srt x.rs) p).length) (fun p => (inP n (srt x.ws) p).length)) (actL (fun p => (inP n (srt x.rs) p).length) (fun p => (inP n (srt x.ws) p).length)) w' ∧ Below w.heap.size w w' := by
  obtain ⟨Y0, hY0⟩ : ∃ y, w.alloc (.cells #[.int .i64 x.s, .int .i64 x.r, x.cv, x.av, x.rv, x.wv] 26) = y := ⟨_, rfl⟩
  obtain ⟨Y, hY⟩ : ∃ y, Y0.alloc (.cells nil18 32) = y := ⟨_, rfl⟩
  have b0 : Below w.heap.size w Y0 := hY0 ▸ below_box _
  have z0 : Y0.heap.size = w.heap.size + 1 := by rw [← hY0]; simp
  have bY : Below w.heap.size w Y := hY ▸ b0.alloc b0.size _
  have x0 : Y0.heap[w.heap.size]? = some (.cells #[.int .i64 x.s, .int .i64 x.r, x.cv, x.av, x.rv, x.wv] 26) := by rw [← hY0]; exact heap_alloc_new w _
  have xY : Y.heap[w.heap.size]? = some (.cells #[.int .i64 x.s, .int .i64 x.r, x.cv, x.av, x.rv, x.wv] 26) := by rw [← hY]; exact (Below.heap_alloc Y0 _ _ (by omega)).trans x0
  have uY : Y.heap[Y0.heap.size]? = some (.cells nil18 32) := by rw [← hY]; exact heap_alloc_new Y0 _
  have hsz : Y0.heap.size < Y.heap.size := by rw [← hY]; simp
  have hlr := hx.lr
  have hlw := hx.lw
  obtain ⟨L, hL⟩ : ∃ L, (fun p => (inP n (srt x.rs) p).length) = L := ⟨_, rfl⟩
  obtain ⟨L', hL'⟩ : ∃ L, (fun p => (inP n (srt x.ws) p).length) = L := ⟨_, rfl⟩
  have HR : Hid (∀ z, Below Y.heap.size Y z → Calls Try.prog 36 #[.int .i64 n, x.rv] z fun e w' => ∃ a c, e = .returned (.agg #[.slice (a 0) (L 0) (c 0), .slice (a 1) (L 1) (c 1), .slice (a 2) (L 2) (c 2), .slice (a 3) (L 3) (c 3), .slice (a 4) (L 4) (c 4), .slice (a 5) (L 5) (c 5), .slice (a 6) (L 6) (c 6), .slice (a 7) (L 7) (c 7)]) ∧ Rows8 z.heap.size w' (inP n (srt x.rs)) (litR a L c) ∧ Below z.heap.size z w') := fun z hz => fsplit_lit n hL ((hx.rs.below kC_len bY).below kC_len hz) hx.okr hlr
  have HW : Hid (∀ z, Below Y.heap.size Y z → Calls Try.prog 36 #[.int .i64 n, x.wv] z fun e w' => ∃ a c, e = .returned (.agg #[.slice (a 0) (L' 0) (c 0), .slice (a 1) (L' 1) (c 1), .slice (a 2) (L' 2) (c 2), .slice (a 3) (L' 3) (c 3), .slice (a 4) (L' 4) (c 4), .slice (a 5) (L' 5) (c 5), .slice (a 6) (L' 6) (c 6), .slice (a 7) (L' 7) (c 7)]) ∧ Rows8 z.heap.size w' (inP n (srt x.ws)) (litR a L' c) ∧ Below z.heap.size z w') := fun z hz => fsplit_lit n hL' ((hx.ws.below kC_len bY).below kC_len hz) hx.okw hlw
  have HX := hide (And.intro b0 (And.intro z0 (And.intro bY (And.intro xY (And.intro uY hsz)))))
  obtain ⟨sx, hsx1⟩ : ∃ z, x.s = z := ⟨_, rfl⟩
  obtain ⟨rx, hrx1⟩ : ∃ z, x.r = z := ⟨_, rfl⟩
  obtain ⟨⟨ac, nc, cc, hc⟩, ⟨aa, na, ca, ha⟩⟩ := And.intro hx.shc hx.sha
  obtain ⟨ar, cr, hr⟩ := hx.rs.shape
  obtain ⟨aw, cw, hw5⟩ := hx.ws.shape
  obtain ⟨nr, hnr⟩ : ∃ z, x.rs.length = z := ⟨_, rfl⟩
  obtain ⟨nw, hnw⟩ : ∃ z, x.ws.length = z := ⟨_, rfl⟩
  rw [hnr] at hr
  rw [hnw] at hw5
  unfold xV
  rw [hsx1, hrx1, hc, ha, hr, hw5, hL, hL']
  rw [hsx1, hrx1, hc, ha, hr, hw5] at hY0 HX
  rw [hr] at HR
  rw [hw5] at HW
  have HLb : Hid ((∀ p, p < 8 → L p ≤ 8796093022208) ∧ ∀ p, p < 8 → L' p ≤ 8796093022208) := ⟨fun p _ => by rw [← hL]; exact Nat.le_trans (inP_len _ _ _) (Nat.le_trans (srt_len _) (by omega)), fun p _ => by rw [← hL']; exact Nat.le_trans (inP_len _ _ _) (Nat.le_trans (srt_len _) (by omega))⟩
  have HY := hide hY
  have HC4 : Hid (∀ z, Below Y.heap.size Y z → z.cell? ⟨w.heap.size, 4, none⟩ = some (.slice ar nr cr) ∧ z.cell? ⟨w.heap.size, 5, none⟩ = some (.slice aw nw cw)) := fun z hz => by
    have hq := (unhide HX).2.2.2.1
    have h1 : z.heap[w.heap.size]? = _ := (hz.block _ (Array.getElem?_eq_some_iff.1 hq).1).trans hq
    exact ⟨cell_at h1, cell_at h1⟩
  clear hx b0 z0 bY x0 xY uY hsz hlr hlw hL hL' hsx1 hrx1 hc ha hr hw5 hnr hnw hY
  go_enter Try.func11, Try.ntmps11
  go_wp2_with (first | rw [hY0] | rw [show Y0.alloc (.cells #[.slice none 0 0, .slice none 0 0, .slice none 0 0, .slice none 0 0, .slice none 0 0, .slice none 0 0, .slice none 0 0, .slice none 0 0, .slice none 0 0, .slice none 0 0, .slice none 0 0, .slice none 0 0, .slice none 0 0, .slice none 0 0, .slice none 0 0, .slice none 0 0, .slice none 0 0, .slice none 0 0] 32) = Y from unhide HY])
  go_cut [5] (fun p wc => OfS n x.rs x.ws L L' Y p wc)
  case first =>
    refine wp_region_held_drew (S := fun x => Below Y.heap.size Y x) (by kernel_rfl) ((Below.refl _ _).drew) (fun hHeld => ?_)
    refine wpAnyH_take (i := 0) (v := ?v1x0) rfl (by kernel_rfl) (by kernel_rfl) (by kernel_rfl) (fun _ _ _ h => h) (Or.inl ⟨by rfl, ?hy1x0⟩) (by assumption) ?rest1x0
    case hy1x0 => intro w hSw; go_simp <;> with_reducible rfl
    simp only [Act.put, List.getElem_toArray, List.getElem_cons_zero, List.setIfInBounds_toArray, List.set_cons_zero, List.set_cons_succ]
    refine wpAnyH_take (i := 1) (v := ?v2x1) rfl (by kernel_rfl) (by kernel_rfl) (by kernel_rfl) (fun _ _ _ h => h) (Or.inl ⟨by rfl, ?hy2x1⟩) (by assumption) ?rest2x1
    case hy2x1 => intro w hSw; go_simp <;> with_reducible rfl
    simp only [Act.put, List.getElem_toArray, List.getElem_cons_zero, List.getElem_cons_succ, List.setIfInBounds_toArray, List.set_cons_zero, List.set_cons_succ]
    refine wpAnyH_take (i := 2) (v := (.slice ar nr cr)) rfl (by kernel_rfl) (by kernel_rfl) (by kernel_rfl) (fun _ _ _ h => h) (Or.inl ⟨by rfl, ?hy3x2⟩) (by assumption) ?rest3x2
    case hy3x2 => intro w hSw; obtain ⟨s1, s2⟩ := unhide HC4 _ hSw; go_simp <;> with_reducible rfl
    simp only [Act.put, List.getElem_toArray, List.getElem_cons_zero, List.getElem_cons_succ, List.setIfInBounds_toArray, List.set_cons_zero, List.set_cons_succ]
    refine wpAnyH_take (i := 4) (v := ?v4x4) rfl (by kernel_rfl) (by kernel_rfl) (by kernel_rfl) (fun _ _ _ h => h) (Or.inl ⟨by rfl, ?hy4x4⟩) (by assumption) ?rest4x4
    case hy4x4 => intro w hSw; go_simp <;> with_reducible rfl
    simp only [Act.put, List.getElem_toArray, List.getElem_cons_zero, List.getElem_cons_succ, List.setIfInBounds_toArray, List.set_cons_zero, List.set_cons_succ]
    refine wpAnyH_take (i := 5) (v := ?v5x5) rfl (by kernel_rfl) (by kernel_rfl) (by kernel_rfl) (fun _ _ _ h => h) (Or.inl ⟨by rfl, ?hy5x5⟩) (by assumption) ?rest5x5
    case hy5x5 => intro w hSw; go_simp <;> with_reducible rfl
    simp only [Act.put, List.getElem_toArray, List.getElem_cons_zero, List.getElem_cons_succ, List.setIfInBounds_toArray, List.set_cons_zero, List.set_cons_succ]
    refine wpAnyH_take (i := 6) (v := (.slice aw nw cw)) rfl (by kernel_rfl) (by kernel_rfl) (by kernel_rfl) (fun _ _ _ h => h) (Or.inl ⟨by rfl, ?hy6x6⟩) (by assumption) ?rest6x6
    case hy6x6 => intro w hSw; obtain ⟨s1, s2⟩ := unhide HC4 _ hSw; go_simp <;> with_reducible rfl
    simp only [Act.put, List.getElem_toArray, List.getElem_cons_zero, List.getElem_cons_succ, List.setIfInBounds_toArray, List.set_cons_zero, List.set_cons_succ]
    refine wpAnyH_ready (rs := [3, 9]) (by kernel_rfl) (by simp) ?_
    refine AllReadyH.cons rfl (fun K hK => ?_) (AllReadyH.cons rfl (fun K hK => ?_) AllReadyH.nil)
    · skip
      go_simp
      refine (unhide HR _ (((Below.refl _ _).drew : Below Y.heap.size Y Y.drew))).mono ?_
      rintro e w1 ⟨a1, c1, rfl, h8w1, hbw1⟩
      refine hK _ _ (((Below.refl _ _).drew : Below Y.heap.size Y Y.drew).trans hbw1) ?_
      clear hK hHeld
      intro hHeld
      have e1 : Below Y.heap.size Y w1 := ((Below.refl _ _).drew : Below Y.heap.size Y Y.drew).trans hbw1
      refine wpAnyH_ready (rs := [7, 9]) (by kernel_rfl) (by simp) ?_
      refine AllReadyH.cons rfl (fun K hK => ?_) (AllReadyH.cons rfl (fun K hK => ?_) AllReadyH.nil)
      · skip
        go_simp
        refine (unhide HW _ (e1)).mono ?_
        rintro e w2 ⟨a2, c2, rfl, h8w2, hbw2⟩
        refine hK _ _ (e1.trans (hbw2.mono e1.size)) ?_
        clear hK hHeld
        intro hHeld
        have e2 : Below Y.heap.size Y w2 := e1.trans (hbw2.mono e1.size)
        refine wpAnyH_take (i := 8) (v := ?v7x8) rfl (by kernel_rfl) (by kernel_rfl) (by kernel_rfl) (fun _ _ _ h => h) (Or.inl ⟨by rfl, ?hy7x8⟩) (by assumption) ?rest7x8
        case hy7x8 => intro w hSw; go_simp <;> with_reducible rfl
        simp only [Act.put, List.getElem_toArray, List.getElem_cons_zero, List.getElem_cons_succ, List.setIfInBounds_toArray, List.set_cons_zero, List.set_cons_succ]
        refine wpAnyH_ready (rs := [9]) (by kernel_rfl) (by simp) ?_
        refine AllReadyH.cons rfl (fun K hK => ?_) AllReadyH.nil
        go_simp
        refine hK _ _ ((e2).alloc (e2).size _) ?_
        clear hK hHeld
        intro hHeld
        have hzb : (w2.alloc (.cells nil18 32)).heap[w2.heap.size]? = some (.cells nil18 32) := heap_alloc_new w2 _
        have hbz : Below Y.heap.size Y (w2.alloc (.cells nil18 32)) := e2.alloc e2.size _
        have HFIN := hide (OfS.fin (n := n) (R := x.rs) (W := x.ws) (L := L) (L' := L') (b := w2.heap.size) e2.size hzb ((h8w1.below hbw2).below (below_box _)) ((h8w2.mono e1.size).below (below_box _)) hbz)
        have hbs : Below Y.heap.size Y ((w2.alloc (.cells nil18 32)).setRow w2.heap.size (ftC a1 L c1 a2 L' c2 (.slice none 0 0) (.slice none 0 0))) := below_setRow hbz e2.size
        skip
        refine wpAnyH_ready (rs := [10]) (by kernel_rfl) (by simp) ?_
        refine AllReadyH.cons rfl (fun K hK => ?_) AllReadyH.nil
        rw [if_pos (by rfl)]
        refine store_upon (g := w2.heap.size) rfl rfl rfl hzb Try.info32 rfl (ft_one0 a1 L c1 a2 L' c2) ?_
        simp only [Act.put, List.getElem_toArray, List.getElem_cons_zero, List.getElem_cons_succ]
        refine hK _ _ hbs ?_
        clear hK hHeld
        intro hHeld
        refine wpAnyH_done (by kernel_rfl) ?_ _
        go_wp2_with fail
        go_meet
        case rel => exact unhide HFIN
      · skip
        go_simp
        refine hK _ _ ((e1).alloc (e1).size _) ?_
        clear hK hHeld
        intro hHeld
        have e1' : Below Y.heap.size Y (w1.alloc (.cells nil18 32)) := e1.alloc e1.size _
        refine wpAnyH_ready (rs := [7]) (by kernel_rfl) (by simp) ?_
        refine AllReadyH.cons rfl (fun K hK => ?_) AllReadyH.nil
        go_simp
        refine (unhide HW _ (e1')).mono ?_
        rintro e w2 ⟨a2, c2, rfl, h8w2, hbw2⟩
        refine hK _ _ (e1'.trans (hbw2.mono e1'.size)) ?_
        clear hK hHeld
        intro hHeld
        have e2 : Below Y.heap.size Y w2 := e1'.trans (hbw2.mono e1'.size)
        have hzb : (w2).heap[w1.heap.size]? = some (.cells nil18 32) := (hbw2.block _ (by simp)).trans (heap_alloc_new w1 _)
        have hbz : Below Y.heap.size Y (w2) := e2
        have HFIN := hide (OfS.fin (n := n) (R := x.rs) (W := x.ws) (L := L) (L' := L') (b := w1.heap.size) e1.size hzb ((h8w1.below (below_box _)).below hbw2) (h8w2.mono e1'.size) hbz)
        have hbs : Below Y.heap.size Y ((w2).setRow w1.heap.size (ftC a1 L c1 a2 L' c2 (.slice none 0 0) (.slice none 0 0))) := below_setRow hbz e1.size
        refine wpAnyH_take (i := 8) (v := ?v8x8) rfl (by kernel_rfl) (by kernel_rfl) (by kernel_rfl) (fun _ _ _ h => h) (Or.inl ⟨by rfl, ?hy8x8⟩) (by assumption) ?rest8x8
        case hy8x8 => intro w hSw; go_simp <;> with_reducible rfl
        simp only [Act.put, List.getElem_toArray, List.getElem_cons_zero, List.getElem_cons_succ, List.setIfInBounds_toArray, List.set_cons_zero, List.set_cons_succ]
        refine wpAnyH_ready (rs := [10]) (by kernel_rfl) (by simp) ?_
        refine AllReadyH.cons rfl (fun K hK => ?_) AllReadyH.nil
        rw [if_pos (by rfl)]
        refine store_upon (g := w1.heap.size) rfl rfl rfl hzb Try.info32 rfl (ft_one0 a1 L c1 a2 L' c2) ?_
        simp only [Act.put, List.getElem_toArray, List.getElem_cons_zero, List.getElem_cons_succ]
        refine hK _ _ hbs ?_
        clear hK hHeld
        intro hHeld
        refine wpAnyH_done (by kernel_rfl) ?_ _
        go_wp2_with fail
        go_meet
        case rel => exact unhide HFIN
    · skip
      go_simp
      refine hK _ _ ((((Below.refl _ _).drew : Below Y.heap.size Y Y.drew)).alloc (((Below.refl _ _).drew : Below Y.heap.size Y Y.drew)).size _) ?_
      clear hK hHeld
      intro hHeld
      have hnw : Y.heap.size < (Y.drew.alloc (.cells nil18 32)).heap.size := (Array.getElem?_eq_some_iff.1 (heap_alloc_new Y.drew (.cells nil18 32))).1
      have e0 : Below Y.heap.size Y (Y.drew.alloc (.cells nil18 32)) := ((Below.refl _ _).drew : Below Y.heap.size Y Y.drew).alloc ((Below.refl _ _).drew : Below Y.heap.size Y Y.drew).size _
      refine wpAnyH_ready (rs := [3]) (by kernel_rfl) (by simp) ?_
      refine AllReadyH.cons rfl (fun K hK => ?_) AllReadyH.nil
      go_simp
      refine (unhide HR _ (e0)).mono ?_
      rintro e w1 ⟨a1, c1, rfl, h8w1, hbw1⟩
      refine hK _ _ (e0.trans (hbw1.mono e0.size)) ?_
      clear hK hHeld
      intro hHeld
      have e1 : Below Y.heap.size Y w1 := e0.trans (hbw1.mono e0.size)
      refine wpAnyH_ready (rs := [7]) (by kernel_rfl) (by simp) ?_
      refine AllReadyH.cons rfl (fun K hK => ?_) AllReadyH.nil
      go_simp
      refine (unhide HW _ (e1)).mono ?_
      rintro e w2 ⟨a2, c2, rfl, h8w2, hbw2⟩
      refine hK _ _ (e1.trans (hbw2.mono e1.size)) ?_
      clear hK hHeld
      intro hHeld
      have e2 : Below Y.heap.size Y w2 := e1.trans (hbw2.mono e1.size)
      have hzb : (w2).heap[Y.heap.size]? = some (.cells nil18 32) := (hbw2.block _ (Nat.lt_of_lt_of_le hnw hbw1.size)).trans ((hbw1.block _ hnw).trans (heap_alloc_new Y.drew _))
      have hbz : Below Y.heap.size Y (w2) := e2
      have HFIN := hide (OfS.fin (n := n) (R := x.rs) (W := x.ws) (L := L) (L' := L') (b := Y.heap.size) (Nat.le_refl _) hzb ((h8w1.mono e0.size).below hbw2) (h8w2.mono e1.size) hbz)
      have hbs : Below Y.heap.size Y ((w2).setRow Y.heap.size (ftC a1 L c1 a2 L' c2 (.slice none 0 0) (.slice none 0 0))) := below_setRow hbz (Nat.le_refl _)
      refine wpAnyH_take (i := 8) (v := ?v9x8) rfl (by kernel_rfl) (by kernel_rfl) (by kernel_rfl) (fun _ _ _ h => h) (Or.inl ⟨by rfl, ?hy9x8⟩) (by assumption) ?rest9x8
      case hy9x8 => intro w hSw; go_simp <;> with_reducible rfl
      simp only [Act.put, List.getElem_toArray, List.getElem_cons_zero, List.getElem_cons_succ, List.setIfInBounds_toArray, List.set_cons_zero, List.set_cons_succ]
      refine wpAnyH_ready (rs := [10]) (by kernel_rfl) (by simp) ?_
      refine AllReadyH.cons rfl (fun K hK => ?_) AllReadyH.nil
      rw [if_pos (by rfl)]
      refine store_upon (g := Y.heap.size) rfl rfl rfl hzb Try.info32 rfl (ft_one0 a1 L c1 a2 L' c2) ?_
      simp only [Act.put, List.getElem_toArray, List.getElem_cons_zero, List.getElem_cons_succ]
      refine hK _ _ hbs ?_
      clear hK hHeld
      intro hHeld
      refine wpAnyH_done (by kernel_rfl) ?_ _
      go_wp2_with fail
      go_meet
      case rel => exact unhide HFIN
  case rest =>
    obtain ⟨b, a, c, a', c', rfl, hbb, hft0, hbe0⟩ := hcut
    have HZS : FtZ b (inP n (srt x.rs)) (inP n (srt x.ws)) a L c a' L' c' ([]) ([]) Y wc := ⟨_, _, hft0, hbe0⟩
    clear hft0 hbe0
    go_upto_region 2 with (fail)
    go_cut [] (fun z => FtZ b (inP n (srt x.rs)) (inP n (srt x.ws)) a L c a' L' c' (hv (cnt2 L L') 8) ([]) Y z)
    case first =>
      obtain ⟨pv, tv, hft, hbe⟩ := HZS
      obtain ⟨Z, hZ⟩ : ∃ y, wc.alloc (.cells #[.slice (a 0) (L 0) (c 0), .slice (a 1) (L 1) (c 1), .slice (a 2) (L 2) (c 2), .slice (a 3) (L 3) (c 3), .slice (a 4) (L 4) (c 4), .slice (a 5) (L 5) (c 5), .slice (a 6) (L 6) (c 6), .slice (a 7) (L 7) (c 7), .slice (a' 0) (L' 0) (c' 0), .slice (a' 1) (L' 1) (c' 1), .slice (a' 2) (L' 2) (c' 2), .slice (a' 3) (L' 3) (c' 3), .slice (a' 4) (L' 4) (c' 4), .slice (a' 5) (L' 5) (c' 5), .slice (a' 6) (L' 6) (c' 6), .slice (a' 7) (L' 7) (c' 7)] 29) = y := ⟨_, rfl⟩
      have bZ : Below wc.heap.size wc Z := hZ ▸ below_box _
      have xZ : Z.heap[wc.heap.size]? = some (.cells #[.slice (a 0) (L 0) (c 0), .slice (a 1) (L 1) (c 1), .slice (a 2) (L 2) (c 2), .slice (a 3) (L 3) (c 3), .slice (a 4) (L 4) (c 4), .slice (a 5) (L 5) (c 5), .slice (a 6) (L 6) (c 6), .slice (a 7) (L 7) (c 7), .slice (a' 0) (L' 0) (c' 0), .slice (a' 1) (L' 1) (c' 1), .slice (a' 2) (L' 2) (c' 2), .slice (a' 3) (L' 3) (c' 3), .slice (a' 4) (L' 4) (c' 4), .slice (a' 5) (L' 5) (c' 5), .slice (a' 6) (L' 6) (c' 6), .slice (a' 7) (L' 7) (c' 7)] 29) := by rw [← hZ]; exact heap_alloc_new wc _
      have hrZ := two_range xZ
      have H37 := hide (having2 hrZ.1 hrZ.2 (Array.getElem?_eq_some_iff.1 xZ).1 (unhide HLb).1 (unhide HLb).2)
      have hftZ := hft.grow bZ
      have HFT := hide (And.intro hft (And.intro hftZ (And.intro hbe bZ)))
      have HZ := hide hZ
      clear hft hftZ hbe bZ xZ hrZ hZ
      go_wp2_with (first | (refine wpList_load_mid rfl 29 _ rfl b 0 rfl [.slice (a 0) (L 0) (c 0), .slice (a 1) (L 1) (c 1), .slice (a 2) (L 2) (c 2), .slice (a 3) (L 3) (c 3), .slice (a 4) (L 4) (c 4), .slice (a 5) (L 5) (c 5), .slice (a 6) (L 6) (c 6), .slice (a 7) (L 7) (c 7)] _ (ft_range0 (unhide HFT).1.box) Try.underlying29 rfl Try.info29 ?_) | (refine wpList_load_mid rfl 29 _ rfl b 8 rfl [.slice (a' 0) (L' 0) (c' 0), .slice (a' 1) (L' 1) (c' 1), .slice (a' 2) (L' 2) (c' 2), .slice (a' 3) (L' 3) (c' 3), .slice (a' 4) (L' 4) (c' 4), .slice (a' 5) (L' 5) (c' 5), .slice (a' 6) (L' 6) (c' 6), .slice (a' 7) (L' 7) (c' 7)] _ (ft_range8 (unhide HFT).1.box) Try.underlying29 rfl Try.info29 ?_) | rw [unhide HZ] | (go_at_call 37; refine (unhide H37).mono ?_; rintro e w1 ⟨r, rfl, ho, hb1⟩; obtain ⟨ra, rc, hre⟩ := own_shape ho; obtain ⟨rn, hrn⟩ : ∃ m, (hv (cnt2 L L') 8).length = m := ⟨_, rfl⟩; have hf1 := (unhide HFT).2.1.grow hb1; have hc := (cell_at hf1.box : w1.cell? ⟨b, 16, none⟩ = _); have hz := (frozen_of_heap hf1.box : w1.frozen? ⟨b, 16, none⟩ = false); have hb2 : Below Y.heap.size Y w1 := ((unhide HFT).2.2.1.trans ((unhide HFT).2.2.2.mono (unhide HFT).2.2.1.size)).trans (hb1.mono (Nat.le_trans (unhide HFT).2.2.1.size (unhide HFT).2.2.2.size)); have hho := own_mono ho (Nat.le_trans (unhide HFT).2.2.1.size (unhide HFT).2.2.2.size); have HG := hide (And.intro (hf1.setP hho) (hb2.setCell hbb r : Below Y.heap.size Y (w1.setCell ⟨b, 16, none⟩ r))); rw [hrn] at hre; subst hre; clear ho hb1 hf1 hb2 hho hrn H37))
      go_meet
      case rel => exact ⟨_, _, (unhide HG).1, (unhide HG).2⟩
    case rest =>
      have HZS := hcut
      clear hcut
      obtain ⟨pv, tv, hft, hbe⟩ := HZS
      obtain ⟨pa, pc, hpv⟩ := own_shape hft.ps
      obtain ⟨pn, hpn⟩ : ∃ m, (hv (cnt2 L L') 8).length = m := ⟨_, rfl⟩
      rw [hpn] at hpv
      have hc0 := (cell_at hft.box : wc.cell? ⟨b, 16, none⟩ = _)
      have hc0' : wc.cell? ⟨b, 16, none⟩ = some (.slice pa pn pc) := by rw [hc0, ← hpv]; rfl
      obtain ⟨e0, he0⟩ : ∃ e, (((pn : Nat) : Int) == 0) = e := ⟨_, rfl⟩
      have HFT := hide (And.intro hft (And.intro hbe (And.intro hpv (And.intro hpn he0))))
      clear hft hbe hpv hc0 hpn
      go_upto_if 25 with (fail)
      clear he0
      go_cut [] (fun z => FtZ b (inP n (srt x.rs)) (inP n (srt x.ws)) a L c a' L' c' (ptsL L L') ([]) Y z)
      case first =>
        obtain ⟨hft, hbe, hpv, hpn, he0⟩ := unhide HFT
        cases e0 with
        | true =>
          have hp0 : pn = 0 := by have := eq_of_beq he0; omega
          have h0 : hv (cnt2 L L') 8 = [] := List.length_eq_zero_iff.1 (by rw [hpn, hp0])
          subst hp0
          have hpt : ptsL L L' = [0] := by unfold ptsL; rw [if_pos h0]
          obtain ⟨Z, hZ⟩ : ∃ y, wc.alloc (.cells #[.int .i64 0] 3) = y := ⟨_, rfl⟩
          have bZ : Below wc.heap.size wc Z := hZ ▸ below_box _
          have hfz := hft.grow bZ
          have hc1 := (cell_at hfz.box : Z.cell? ⟨b, 16, none⟩ = _)
          have hz1 := (frozen_of_heap hfz.box : Z.frozen? ⟨b, 16, none⟩ = false)
          have hc1' : Z.cell? ⟨b, 16, none⟩ = some (.slice pa 0 pc) := by rw [hc1, ← hpv]; rfl
          have HG := hide (And.intro (hfz.setP (hZ ▸ own_oneN wc 0 hbe.size)) ((hbe.trans (bZ.mono hbe.size)).setCell hbb _ : Below Y.heap.size Y (Z.setCell ⟨b, 16, none⟩ (.slice (some ⟨wc.heap.size, 0, none⟩) 1 1))))
          have HPT := hide hpt
          clear hft hbe hpv h0 hpt bZ hfz hc1 he0 hpn
          go_wp2_with (rw [hZ])
          go_meet
          case rel => exact ⟨_, _, by rw [unhide HPT]; exact (unhide HG).1, (unhide HG).2⟩
        | false =>
          have hp0 : pn ≠ 0 := fun e => by rw [e] at he0; cases he0
          have hpt : ptsL L L' = hv (cnt2 L L') 8 := by unfold ptsL; rw [if_neg (fun h => hp0 (by rw [← hpn, h]; rfl))]
          have HG := hide (And.intro hft hbe)
          have HPT := hide hpt
          clear hft hbe hpv hpt hpn he0
          go_wp2
          go_meet
          case rel => exact ⟨_, _, by rw [unhide HPT]; exact (unhide HG).1, (unhide HG).2⟩
      case rest =>
        have HZS := hcut
        clear hcut
        go_upto_region 5 with (fail)
        go_cut [] (fun z => FtZ b (inP n (srt x.rs)) (inP n (srt x.ws)) a L c a' L' c' (ptsL L L') (hv (cnt1 L') 8) Y z)
        case first =>
          obtain ⟨pv, tv, hft, hbe⟩ := HZS
          obtain ⟨Z, hZ⟩ : ∃ y, wc.alloc (.cells #[.slice (a' 0) (L' 0) (c' 0), .slice (a' 1) (L' 1) (c' 1), .slice (a' 2) (L' 2) (c' 2), .slice (a' 3) (L' 3) (c' 3), .slice (a' 4) (L' 4) (c' 4), .slice (a' 5) (L' 5) (c' 5), .slice (a' 6) (L' 6) (c' 6), .slice (a' 7) (L' 7) (c' 7)] 29) = y := ⟨_, rfl⟩
          have bZ : Below wc.heap.size wc Z := hZ ▸ below_box _
          have xZ : Z.heap[wc.heap.size]? = some (.cells #[.slice (a' 0) (L' 0) (c' 0), .slice (a' 1) (L' 1) (c' 1), .slice (a' 2) (L' 2) (c' 2), .slice (a' 3) (L' 3) (c' 3), .slice (a' 4) (L' 4) (c' 4), .slice (a' 5) (L' 5) (c' 5), .slice (a' 6) (L' 6) (c' 6), .slice (a' 7) (L' 7) (c' 7)] 29) := by rw [← hZ]; exact heap_alloc_new wc _
          have hrZ := one_range xZ
          have H37 := hide (having1 hrZ (Array.getElem?_eq_some_iff.1 xZ).1 (unhide HLb).2)
          have hftZ := hft.grow bZ
          have HFT := hide (And.intro hft (And.intro hftZ (And.intro hbe bZ)))
          have HZ := hide hZ
          clear hft hftZ hbe bZ xZ hrZ hZ
          go_wp2_with (first | (refine wpList_load_mid rfl 29 _ rfl b 0 rfl [.slice (a 0) (L 0) (c 0), .slice (a 1) (L 1) (c 1), .slice (a 2) (L 2) (c 2), .slice (a 3) (L 3) (c 3), .slice (a 4) (L 4) (c 4), .slice (a 5) (L 5) (c 5), .slice (a 6) (L 6) (c 6), .slice (a 7) (L 7) (c 7)] _ (ft_range0 (unhide HFT).1.box) Try.underlying29 rfl Try.info29 ?_) | (refine wpList_load_mid rfl 29 _ rfl b 8 rfl [.slice (a' 0) (L' 0) (c' 0), .slice (a' 1) (L' 1) (c' 1), .slice (a' 2) (L' 2) (c' 2), .slice (a' 3) (L' 3) (c' 3), .slice (a' 4) (L' 4) (c' 4), .slice (a' 5) (L' 5) (c' 5), .slice (a' 6) (L' 6) (c' 6), .slice (a' 7) (L' 7) (c' 7)] _ (ft_range8 (unhide HFT).1.box) Try.underlying29 rfl Try.info29 ?_) | rw [unhide HZ] | (go_at_call 37; refine (unhide H37).mono ?_; rintro e w1 ⟨r, rfl, ho, hb1⟩; obtain ⟨ra, rc, hre⟩ := own_shape ho; obtain ⟨rn, hrn⟩ : ∃ m, (hv (cnt1 L') 8).length = m := ⟨_, rfl⟩; have hf1 := (unhide HFT).2.1.grow hb1; have hc := (cell_at hf1.box : w1.cell? ⟨b, 17, none⟩ = _); have hz := (frozen_of_heap hf1.box : w1.frozen? ⟨b, 17, none⟩ = false); have hb2 : Below Y.heap.size Y w1 := ((unhide HFT).2.2.1.trans ((unhide HFT).2.2.2.mono (unhide HFT).2.2.1.size)).trans (hb1.mono (Nat.le_trans (unhide HFT).2.2.1.size (unhide HFT).2.2.2.size)); have hho := own_mono ho (Nat.le_trans (unhide HFT).2.2.1.size (unhide HFT).2.2.2.size); have HG := hide (And.intro (hf1.setT hho) (hb2.setCell hbb r : Below Y.heap.size Y (w1.setCell ⟨b, 17, none⟩ r))); rw [hrn] at hre; subst hre; clear ho hb1 hf1 hb2 hho hrn H37))
          go_meet
          case rel => exact ⟨_, _, (unhide HG).1, (unhide HG).2⟩
        case rest =>
          have HZS := hcut
          clear hcut
          obtain ⟨pv, tv, hft, hbe⟩ := HZS
          obtain ⟨ta, tc, htv⟩ := own_shape hft.ts
          obtain ⟨tn, htn⟩ : ∃ m, (hv (cnt1 L') 8).length = m := ⟨_, rfl⟩
          rw [htn] at htv
          have hc0 := (cell_at hft.box : wc.cell? ⟨b, 17, none⟩ = _)
          have hc0' : wc.cell? ⟨b, 17, none⟩ = some (.slice ta tn tc) := by rw [hc0, ← htv]; rfl
          obtain ⟨e0, he0⟩ : ∃ e, (((tn : Nat) : Int) == 0) = e := ⟨_, rfl⟩
          have HFT := hide (And.intro hft (And.intro hbe (And.intro htv (And.intro htn he0))))
          clear hft hbe htv hc0 htn
          go_upto_if 36 with (fail)
          clear he0
          go_cut [] (fun z => FtZ b (inP n (srt x.rs)) (inP n (srt x.ws)) a L c a' L' c' (ptsL L L') (actL L L') Y z)
          case first =>
            obtain ⟨hft, hbe, htv, htn, he0⟩ := unhide HFT
            cases e0 with
            | true =>
              have hp0 : tn = 0 := by have := eq_of_beq he0; omega
              have h0 : hv (cnt1 L') 8 = [] := List.length_eq_zero_iff.1 (by rw [htn, hp0])
              subst hp0
              have hpt : actL L L' = [(ptsL L L').getD 0 0] := by unfold actL; rw [if_pos h0]
              obtain ⟨q, hq⟩ : ∃ q, (ptsL L L').getD 0 0 = q := ⟨_, rfl⟩
              obtain ⟨pn, hpn⟩ : ∃ m, (ptsL L L').length = m := ⟨_, rfl⟩
              have hpp : 0 < pn := by rw [← hpn]; exact ptsL_pos L L'
              obtain ⟨_, hsee⟩ := own_sees nC_len (by decide) hft.ps
              obtain ⟨pa, pc, gp, op, hpv, hpa, hpc⟩ := SeesL.at hsee
              have hfirst := hpc 0 (by rw [hpn]; exact hpp) 0 (by decide)
              have hpa' := hpa (by rw [hpn]; exact hpp)
              have hg0 : (ptsL L L').getD 0 default = q := by rw [← hq]; rfl
              rw [hg0] at hfirst
              have hfirst' : wc.cell? ⟨gp, op, none⟩ = some (.int .i64 q) := by simpa [nC] using hfirst
              rw [hpn, hpa'] at hpv
              obtain ⟨Z, hZ⟩ : ∃ y, wc.alloc (.cells #[.int .i64 q] 3) = y := ⟨_, rfl⟩
              have bZ : Below wc.heap.size wc Z := hZ ▸ below_box _
              have hfz := hft.grow bZ
              have hc2 := (cell_at hft.box : wc.cell? ⟨b, 16, none⟩ = _)
              have hc1 := (cell_at hfz.box : Z.cell? ⟨b, 17, none⟩ = _)
              have hz1 := (frozen_of_heap hfz.box : Z.frozen? ⟨b, 17, none⟩ = false)
              have hc1' : Z.cell? ⟨b, 17, none⟩ = some (.slice ta 0 tc) := by rw [hc1, ← htv]; rfl
              have hc2' : wc.cell? ⟨b, 16, none⟩ = some (.slice (some ⟨gp, op, none⟩) pn pc) := by rw [hc2, ← hpv]; rfl
              have hlt0 : (0 : Int) < ((pn : Nat) : Int) := by omega
              have HG := hide (And.intro (hfz.setT (hZ ▸ own_oneN wc q hbe.size)) ((hbe.trans (bZ.mono hbe.size)).setCell hbb _ : Below Y.heap.size Y (Z.setCell ⟨b, 17, none⟩ (.slice (some ⟨wc.heap.size, 0, none⟩) 1 1))))
              rw [hq] at hpt
              have HPT := hide hpt
              clear hft hbe htv h0 hpt bZ hfz hc1 hc2 hq hpn hsee hpa hpc hfirst hpa' hg0 hpv he0 htn
              go_wp2_with (rw [hZ])
              go_meet
              case rel => exact ⟨_, _, by rw [unhide HPT]; exact (unhide HG).1, (unhide HG).2⟩
            | false =>
              have hp0 : tn ≠ 0 := fun e => by rw [e] at he0; cases he0
              have hpt : actL L L' = hv (cnt1 L') 8 := by unfold actL; rw [if_neg (fun h => hp0 (by rw [← htn, h]; rfl))]
              have HG := hide (And.intro hft hbe)
              have HPT := hide hpt
              clear hft hbe htv hpt htn he0
              go_wp2
              go_meet
              case rel => exact ⟨_, _, by rw [unhide HPT]; exact (unhide HG).1, (unhide HG).2⟩
          case rest =>
            obtain ⟨pv, tv, hft, hbe⟩ := hcut
            obtain ⟨b0, z0, bY, xY, uY, hsz⟩ := unhide HX
            obtain ⟨pa, pc, hpv⟩ := own_shape hft.ps
            obtain ⟨ta, tc, htv⟩ := own_shape hft.ts
            have u1 : wc.heap[Y0.heap.size]? = some (.cells nil18 32) := (hbe.block _ hsz).trans uY
            have hone : (ftC a L c a' L' c' pv tv).all (·.oneCell') = true := by rw [hpv, htv]; exact ft_one _ _ _ _ _ _
            have x1 : (wc.setRow Y0.heap.size (ftC a L c a' L' c' pv tv)).heap[Y0.heap.size]? = some (.cells (ftC a L c a' L' c' pv tv) 32) := by rw [setRow_heap wc Y0.heap.size _ _ 32 (0, 0) u1]
            have hj : ∀ j, j ≠ Y0.heap.size → (wc.setRow Y0.heap.size (ftC a L c a' L' c' pv tv)).heap[j]? = wc.heap[j]? := fun j hj => setRow_other _ _ _ _ hj
            have hle := bY.size
            have hV : FtV w.heap.size (inP n (srt x.rs)) (inP n (srt x.ws)) a L c a' L' c' pv tv (ptsL L L') (actL L L') (wc.setRow Y0.heap.size (ftC a L c a' L' c' pv tv)) := ⟨(hft.rd.mono hle).box u1 hj, (hft.wt.mono hle).box u1 hj, own_box u1 (by decide) hj (own_mono hft.ps hle), own_box u1 (by decide) hj (own_mono hft.ts hle)⟩
            have hBV : Below w.heap.size w (wc.setRow Y0.heap.size (ftC a L c a' L' c' pv tv)) := below_setRow (bY.trans (hbe.mono hle)) b0.size
            have HF := hide (And.intro hft.box (And.intro u1 (And.intro hone (And.intro x1 (And.intro hV hBV)))))
            clear hft hbe b0 z0 bY xY uY hsz hpv htv u1 hone x1 hj hle hV hBV
            go_wp2_with (first | (refine wpList_load_row rfl 32 _ rfl b rfl 32 (ftC a L c a' L' c' pv tv) (0, 0) _ (unhide HF).1 Try.underlying32 rfl Try.info32 ?_) | (refine wpList_store_row rfl 32 _ _ rfl Y0.heap.size nil18 (ftC a L c a' L' c' pv tv) rfl rfl 32 (unhide HF).2.1 Try.info32 rfl (unhide HF).2.2.1 ?_))
            exact bodyPost_ret (results_cell_row rfl _ _ Y0.heap.size 32 _ (0, 0) _ rfl (unhide HF).2.2.2.1 Try.underlying32 rfl Try.info32) rfl ⟨a, c, a', c', pv, tv, rfl, (unhide HF).2.2.2.2.1, (unhide HF).2.2.2.2.2⟩
end Go.Proofs.Ytibjhjkeflbghaa
