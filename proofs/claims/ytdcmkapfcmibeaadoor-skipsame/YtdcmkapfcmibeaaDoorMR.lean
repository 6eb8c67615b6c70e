/- rising: a store's keys are told rising, each with what the map has. -/
import Derived.Test.YtdcmkapfcmibeaaDoorMQ
import Derived.Test.YtdcmkapfcmibeaaDoorMN
import Derived.Test.YtdcmkapfcmibeaaDoorMJ
namespace Go.Proofs.YtdcmkapfcmibeaaDoor
open Go.RowKit Go.Shelf
attribute [local go_sem] Oper.semAt_some
set_option maxRecDepth 100000

theorem less_yes (a b : Ky) (h : ltK a b) (w : World) : Calls Tryd.prog 51 #[.agg #[.int .i32 a.1, .int .i64 a.2], .agg #[.int .i32 b.1, .int .i64 b.2]] w fun e w' => e = .returned (.bool true) ∧ Below w.heap.size w w' := by
  have HB : Hid (Below w.heap.size w ((w.alloc (.cells #[.int .i32 a.1, .int .i64 a.2] 30)).alloc (.cells #[.int .i32 b.1, .int .i64 b.2] 30))) := ((Below.refl _ _).alloc (Nat.le_refl _) _).alloc (by simp) _
  rcases h with h | ⟨h1, h2⟩
  · have hd : decide (a.1 < b.1) = true := decide_eq_true h
    go_enter Tryd.func51, Tryd.ntmps51
    go_wp2
    go_ret
    exact ⟨rfl, unhide HB⟩
  · have hd : decide (a.1 < b.1) = false := decide_eq_false (by omega)
    have he : (a.1 == b.1) = true := by simpa using h1
    have hl : decide (a.2 < b.2) = true := decide_eq_true h2
    clear h1 h2
    go_enter Tryd.func51, Tryd.ntmps51
    go_wp2
    go_ret
    exact ⟨rfl, unhide HB⟩
theorem hi_low {w : World} {b0 sb hd : Nat} {L : List Nd} {luck : Int} (h : Sk w b0 sb hd L luck) : hi (-2147483648, -9223372036854775808) L = L := List.filter_eq_self.2 fun n hn => by
  have h1 := (h.ok n hn).t
  have h2 := (h.ok n hn).r
  have : ¬ ltK n.k (-2147483648, -9223372036854775808) := by unfold ltK; simp only; omega
  simpa using this
def lastP (pre : List Pr) : Pr := pre.getLastD ((0, 0), 0, 0)
theorem lastP_snoc (pre : List Pr) (x : Pr) : lastP (pre ++ [x]) = x := by simp [lastP]
/-- Where rising stands. -/
def RsI (lb nb B : Nat) (W2 : World) (pre : List Pr) (W : World) : Prop := (W.heap[lb]? = some (.cells #[.int .i32 (lastP pre).1.1, .int .i64 (lastP pre).1.2, .int .i64 (lastP pre).2.1, .int .i64 (lastP pre).2.2] 32) ∧ W.heap[nb]? = some (.cells #[.int .i64 (pre.length : Nat)] 3)) ∧ Upd (TwoB lb nb) B W2 W
theorem ownFrom_cells {β : Type} (N k : Nat) (f : β → Array Value) (T : TypeId) : OwnFrom N (fun (s : β) (W : World) => W.heap[k]? = some (.cells (f s) T)) := fun s A B row hs hg hr =>
  (hg.block k (Array.getElem?_eq_some_iff.1 hs).1 (fun e => by
    obtain ⟨_, o, ho, hc⟩ := hr k e.symm
    rw [show A.heap[k]? = _ from hs] at ho
    injection ho with ho
    subst ho
    simp [Obj.isCells] at hc)).trans hs
theorem rsI_own (lb nb B : Nat) (W2 : World) (hB : B ≤ W2.heap.size) : OwnFrom B (RsI lb nb B W2) :=
  OwnFrom.and (OwnFrom.and (ownFrom_cells B lb (fun pre : List Pr => #[.int .i32 (lastP pre).1.1, .int .i64 (lastP pre).1.2, .int .i64 (lastP pre).2.1, .int .i64 (lastP pre).2.2]) 32) (ownFrom_cells B nb (fun pre : List Pr => #[.int .i64 (pre.length : Nat)]) 3)) (ownFrom_upd hB)

set_option maxHeartbeats 2000000 in
theorem rising_any {w : World} {b0 sb hd mb : Nat} {L : List Nd} {luck : Int} (h : Sk w b0 sb hd L luck) (hM : MapL w mb L) :
    Calls Tryd.prog 22 #[PN sb, .map (some mb)] w fun e w' => e = .returned (.bool true) ∧ Below w.heap.size w w' := by
  obtain ⟨n0, hn0⟩ : ∃ x, w.heap.size = x := ⟨_, rfl⟩
  obtain ⟨W1, hW1⟩ : ∃ W, ((((w.alloc (.cells #[.map (some mb)] 48)).alloc (.cells #[.bool false] 4)).alloc (.cells #[.int .i32 0, .int .i64 0, .int .i64 0, .int .i64 0] 32)).alloc (.cells #[.int .i64 0] 3)) = W := ⟨_, rfl⟩
  obtain ⟨mx, hmx⟩ : ∃ x, n0 = x := ⟨_, rfl⟩
  obtain ⟨rb, hrb⟩ : ∃ x, mx + 1 = x := ⟨_, rfl⟩
  obtain ⟨lb, hlb⟩ : ∃ x, rb + 1 = x := ⟨_, rfl⟩
  obtain ⟨nb, hnb⟩ : ∃ x, lb + 1 = x := ⟨_, rfl⟩
  have hb : Below n0 w W1 := by rw [← hW1, ← hn0]; exact ((((Below.refl _ _).alloc (Nat.le_refl _) _).alloc (by simp) _).alloc (by simp; omega) _).alloc (by simp; omega) _
  have hs1 : W1.heap.size = nb + 1 := by rw [← hW1]; simp; omega
  have k0 : W1.heap[mx]? = some (.cells #[.map (some mb)] 48) := by rw [← hW1]; rw [Below.heap_alloc _ _ _ (by simp; omega)]; rw [Below.heap_alloc _ _ _ (by simp; omega)]; rw [Below.heap_alloc _ _ _ (by simp; omega)]; have := World.alloc_heap_new (w) (.cells #[.map (some mb)] 48); rw [hn0] at this; rw [hmx] at this; exact this
  have k1 : W1.heap[rb]? = some (.cells #[.bool false] 4) := by rw [← hW1]; rw [Below.heap_alloc _ _ _ (by simp; omega)]; rw [Below.heap_alloc _ _ _ (by simp; omega)]; have := World.alloc_heap_new ((w.alloc (.cells #[.map (some mb)] 48))) (.cells #[.bool false] 4); rw [World.size_alloc] at this; rw [hn0] at this; rw [hmx] at this; rw [hrb] at this; exact this
  have k2 : W1.heap[lb]? = some (.cells #[.int .i32 0, .int .i64 0, .int .i64 0, .int .i64 0] 32) := by rw [← hW1]; rw [Below.heap_alloc _ _ _ (by simp; omega)]; have := World.alloc_heap_new (((w.alloc (.cells #[.map (some mb)] 48)).alloc (.cells #[.bool false] 4))) (.cells #[.int .i32 0, .int .i64 0, .int .i64 0, .int .i64 0] 32); rw [World.size_alloc, World.size_alloc] at this; rw [hn0] at this; rw [hmx] at this; rw [hrb] at this; rw [hlb] at this; exact this
  have k3 : W1.heap[nb]? = some (.cells #[.int .i64 0] 3) := by rw [← hW1]; have := World.alloc_heap_new ((((w.alloc (.cells #[.map (some mb)] 48)).alloc (.cells #[.bool false] 4)).alloc (.cells #[.int .i32 0, .int .i64 0, .int .i64 0, .int .i64 0] 32))) (.cells #[.int .i64 0] 3); rw [World.size_alloc, World.size_alloc, World.size_alloc] at this; rw [hn0] at this; rw [hmx] at this; rw [hrb] at this; rw [hlb] at this; rw [hnb] at this; exact this
  have h1 : Sk W1 b0 sb hd L luck := h.below (by rw [hn0]; exact hb)
  have hM1 : MapL W1 mb L := hM.below (by rw [hn0]; exact hb)
  have hmb : mb < n0 := by rw [← hn0]; exact hM.lt
  have HF : Hid (Calls Tryd.prog 33 #[PN sb, .agg #[.int .i32 (-2147483648), .int .i64 (-9223372036854775808)]] W1 fun e w' => ∃ v, e = .returned v ∧ VcAt W1.heap.size w' v (L.map cl) ∧ Below W1.heap.size W1 w') := by
    have := from_any h1 (-2147483648, -9223372036854775808)
    rw [hi_low h1] at this
    exact this
  rw [hn0]
  have HK := hide (And.intro k0 (And.intro k1 (And.intro k2 k3)))
  have HC := hide (And.intro h1 (And.intro hM1 (And.intro hb hs1)))
  have HW1 := hide hW1
  clear h hM h1 hM1 hb hs1 k0 k1 k2 k3 hW1
  refine (callsIn_wide (n := 3)).1 ?_
  refine callsIn_of_wp_marks Tryd.func22 rfl trivial ?_ rfl
  simp only [Tryd.ntmps22, List.size_toArray, List.length_cons, List.length_nil, Nat.reduceAdd, Nat.reduceSub, Array.replicate_succ, Array.replicate_zero, List.push_toArray, List.append_toArray, List.nil_append, List.cons_append]
  gi_wp2_with fail
  try rw [hn0]
  rw [unhide HW1]
  clear HW1
  try rw [hmx]
  try rw [hrb]
  try rw [hlb]
  try rw [hnb]
  refine ⟨trivial, ((callsIn_wide).2 (unhide HF)).mono ?_⟩
  rintro e W2 ⟨v, rfl, ⟨bx, u, m, rfl, hbx, hc, hown⟩, hb2⟩
  obtain ⟨h1, hM1, hb, hs1⟩ := unhide HC
  obtain ⟨k0, k1, k2, k3⟩ := unhide HK
  have h2 : Sk W2 b0 sb hd L luck := h1.below hb2
  have hM2 : MapL W2 mb L := hM1.below hb2
  obtain ⟨B, hB⟩ : ∃ B, W2.heap.size = B := ⟨_, rfl⟩
  have hB1 : nb + 1 ≤ B := by rw [← hB, ← hs1]; exact hb2.size
  have j0 : W2.heap[mx]? = some (.cells #[.map (some mb)] 48) := (hb2.block mx (by omega)).trans k0
  have j1 : W2.heap[rb]? = some (.cells #[.bool false] 4) := (hb2.block rb (by omega)).trans k1
  have j2 : W2.heap[lb]? = some (.cells #[.int .i32 0, .int .i64 0, .int .i64 0, .int .i64 0] 32) := (hb2.block lb (by omega)).trans k2
  have j3 : W2.heap[nb]? = some (.cells #[.int .i64 0] 3) := (hb2.block nb (by omega)).trans k3
  have hbw : Below n0 w W2 := hb.trans (hb2.mono (by omega))
  have hll : (L.map cl).length ≤ 1048576 := by rw [List.length_map]; exact h2.most
  obtain ⟨gb, hgb0, hgb, hseq⟩ := vc_seq_own (3 - 1) bx W1.heap.size m (L.map cl) W2 u hbx hc hown (by omega)
  rw [hs1] at hgb0
  rw [hB] at hgb
  have i0 : RsI lb nb B W2 [] W2 := ⟨⟨j2, j3⟩, Upd.refl _ _ _⟩
  clear hc hown hbx HC HK k0 k1 k2 k3 h1 hM1 hb hb2 hs1
  gi_wp2
  refine wpIn_range_as rfl (by decide) (gf := 79) (lb := #[PN bx]) rfl trivial (enters_of Tryd.func79 (by kernel_rfl) rfl) hseq
    keepb_t (fun W o o' => keepb_put (fun c => by have : W2.heap.size + 1 = gb := c; omega) W o o') (Below.refl _ _) (fun _ => by rfl)
    (RsI lb nb B W2) (fun _ _ _ => False)
    (by rw [hB]; exact rsI_own lb nb B W2 (by omega)) (fun _ => ownFrom_pure _ _) i0
    (fun x W => W.alloc (.cells #[.int .i32 x.1.1, .int .i64 x.1.2, .int .i64 x.2.1, .int .i64 x.2.2] 32)) (fun x q => { tmps := #[PN sb, .map (some mb), undef, PN mx, PN rb, PN lb, PN nb, PN q, undef, undef, PN sb, .agg #[.int .i32 (-2147483648), .int .i64 (-9223372036854775808)], .func (.func 79) #[] #[PN bx], .agg #[.int .i32 x.1.1, .int .i64 x.1.2, .int .i64 x.2.1, .int .i64 x.2.2], undef, undef, undef, undef, undef, undef, undef, undef, undef, undef, undef, undef, undef, undef, undef, undef, undef, undef, undef, undef, undef, undef, undef, undef, undef, undef, undef, undef, undef, undef, undef, undef, undef], defers := [] })
    (fun x q pre W => (RsI lb nb B W2 pre W ∧ W.heap[q]? = some (.cells #[.int .i32 x.1.1, .int .i64 x.1.2, .int .i64 x.2.1, .int .i64 x.2.2] 32)) ∧ B ≤ q)
    (fun x q => by rw [hB]; exact OwnFrom.and (OwnFrom.and (rsI_own lb nb B W2 (by omega)) (ownFrom_cells B q (fun _ => #[.int .i32 x.1.1, .int .i64 x.1.2, .int .i64 x.2.1, .int .i64 x.2.2]) 32)) (ownFrom_pure _ _))
    (fun x W => (Below.refl _ _).alloc (Nat.le_refl _) _) (fun x W hs => ⟨by simp, fun k hk => Below.heap_alloc _ _ _ (by have : k = gb := hk; omega)⟩)
    (fun pre x W hI hOk hsz => by
      have hbW : Below W.heap.size W (W.alloc (.cells #[.int .i32 x.1.1, .int .i64 x.1.2, .int .i64 x.2.1, .int .i64 x.2.2] 32)) := (Below.refl _ _).alloc (Nat.le_refl _) _
      exact ⟨⟨⟨⟨(hbW.block lb (by omega)).trans hI.1.1, (hbW.block nb (by omega)).trans hI.1.2⟩, hI.2.trans ((Upd.of hbW).less (by omega))⟩, heap_new1 _ _⟩, by omega⟩) ?assign ?body ?done ?stop
  case assign =>
    intro lp x W K hK
    unfold encvc
    clear hseq h2 hM2 j0 j1 j2 j3 hbw i0 hB hB1 hmx hrb hlb hnb
    gi_wp2
    exact hK
  case body =>
    intro lp pre' x q W hI hOk
    obtain ⟨⟨⟨⟨kl, kn⟩, hU⟩, kq⟩, hqB⟩ := hI
    obtain ⟨r, hr⟩ := hOk
    obtain ⟨n, hn, hnx⟩ : ∃ n ∈ L, cl n = x := by
      have : x ∈ L.map cl := by rw [← hr]; simp
      exact List.mem_map.1 this
    have hpl : pre'.length < 1048576 := by have := congrArg List.length hr; rw [List.length_append, List.length_cons] at this; omega
    have hsW : B ≤ W.heap.size := by have := hU.size; omega
    have hMW : MapL W mb L := hM2.keep (hU.block mb (by omega) (by rintro (e | e) <;> omega))
    have hrise : (L.map cl).Pairwise fun a b => ltK a.1 b.1 := List.pairwise_map.2 h2.rise
    have km : W.heap[mx]? = some (.cells #[.map (some mb)] 48) := (hU.block mx (by omega) (by rintro (e | e) <;> omega)).trans j0
    have hlook : (Instr.lookup 48 (.map (some mb)) (.agg #[.int .i32 x.1.1, .int .i64 x.1.2]) true).run Tryd.prog W = .ok (.tuple #[.agg #[.int .i32 x.1.1, .int .i64 x.1.2, .int .i64 x.2.1, .int .i64 x.2.2], .bool true]) W := by
      have := look_has hMW h2.rise h2.ok hn
      rw [← hnx]
      exact this
    have m0 : W.cell? ⟨mx, 0, none⟩ = some (.map (some mb)) := cell_at km
    have q0 : W.cell? ⟨q, 0, none⟩ = some (.int .i32 x.1.1) := cell_at kq
    have q1 : W.cell? ⟨q, 1, none⟩ = some (.int .i64 x.1.2) := cell_at kq
    have q2 : W.cell? ⟨q, 2, none⟩ = some (.int .i64 x.2.1) := cell_at kq
    have q3 : W.cell? ⟨q, 3, none⟩ = some (.int .i64 x.2.2) := cell_at kq
    have hneq : ∀ w, (binOp .neq 32 (.agg #[.int .i32 x.1.1, .int .i64 x.1.2, .int .i64 x.2.1, .int .i64 x.2.2]) (.agg #[.int .i32 x.1.1, .int .i64 x.1.2, .int .i64 x.2.1, .int .i64 x.2.2])).run Tryd.prog w = .ok (.bool false) w := fun w => by rw [neq_cell]; simp
    obtain ⟨Y, hY⟩ : ∃ Y, W.alloc (.cells #[.int .i32 x.1.1, .int .i64 x.1.2, .int .i64 x.2.1, .int .i64 x.2.2] 32) = Y := ⟨_, rfl⟩
    have hbY : Below W.heap.size W Y := by rw [← hY]; exact (Below.refl _ _).alloc (Nat.le_refl _) _
    have kY : Y.heap[W.heap.size]? = some (.cells #[.int .i32 x.1.1, .int .i64 x.1.2, .int .i64 x.2.1, .int .i64 x.2.2] 32) := by rw [← hY]; exact heap_new1 _ _
    have knY : Y.heap[nb]? = some (.cells #[.int .i64 (pre'.length : Nat)] 3) := (hbY.block nb (by omega)).trans kn
    have kqY : Y.heap[q]? = some (.cells #[.int .i32 x.1.1, .int .i64 x.1.2, .int .i64 x.2.1, .int .i64 x.2.2] 32) := (hbY.block q (Array.getElem?_eq_some_iff.1 kq).1).trans kq
    have v0 : Y.cell? ⟨W.heap.size, 0, none⟩ = some (.int .i32 x.1.1) := cell_at kY
    have v1 : Y.cell? ⟨W.heap.size, 1, none⟩ = some (.int .i64 x.1.2) := cell_at kY
    have v2 : Y.cell? ⟨W.heap.size, 2, none⟩ = some (.int .i64 x.2.1) := cell_at kY
    have v3 : Y.cell? ⟨W.heap.size, 3, none⟩ = some (.int .i64 x.2.2) := cell_at kY
    have z0 : Y.cell? ⟨q, 0, none⟩ = some (.int .i32 x.1.1) := cell_at kqY
    have z1 : Y.cell? ⟨q, 1, none⟩ = some (.int .i64 x.1.2) := cell_at kqY
    have z2 : Y.cell? ⟨q, 2, none⟩ = some (.int .i64 x.2.1) := cell_at kqY
    have z3 : Y.cell? ⟨q, 3, none⟩ = some (.int .i64 x.2.2) := cell_at kqY
    obtain ⟨c, hc⟩ : ∃ c, pre'.length = c := ⟨_, rfl⟩
    rw [hc] at kn knY hpl
    obtain ⟨ci, hci⟩ : ∃ ci : Int, ((c : Nat) : Int) = ci := ⟨_, rfl⟩
    rw [hci] at kn knY
    have b0' : Y.cell? ⟨nb, 0, none⟩ = some (.int .i64 ci) := cell_at knY
    obtain ⟨c1, hc1⟩ : ∃ c1, c + 1 = c1 := ⟨_, rfl⟩
    have hwc : IntKind.i64.wrap ((ci) + 1) = (c1 : Int) := by rw [wrap_i64 _ (by omega) (by omega)]; omega
    have HC := hide (And.intro hc (And.intro hc1 hci))
    have HKL := hide kl
    have HKN := hide kn
    have HKQ := hide kq
    have HU := hide hU
    have HBY := hide hbY
    have HY := hide hY
    have HPW := hide (And.intro hr hrise)
    clear hseq h2 hM2 j0 j1 j2 j3 hbw i0 hMW km hn hr hrise hU hY hbY kY knY kqY kl kn kq hc hc1 hci hnx hll
    rcases List.eq_nil_or_concat pre' with rfl | ⟨p, y, ep⟩
    · have hgt : decide ((0 : Int) < ci) = false := by obtain ⟨e1, e2, e3⟩ := unhide HC; simp at e1; simp; omega
      have hgt' : decide (ci > 0) = false := hgt
      have hbel := unhide HBY
      have klq : Y.heap[lb]? = some (.cells #[.int .i32 (lastP []).1.1, .int .i64 (lastP []).1.2, .int .i64 (lastP []).2.1, .int .i64 (lastP []).2.2] 32) := (hbel.block lb (by omega)).trans (unhide HKL)
      have knq : Y.heap[nb]? = some (.cells #[.int .i64 ci] 3) := (hbel.block nb (by omega)).trans (unhide HKN)
      have kqq : Y.heap[q]? = some (.cells #[.int .i32 x.1.1, .int .i64 x.1.2, .int .i64 x.2.1, .int .i64 x.2.2] 32) := (hbel.block q (Array.getElem?_eq_some_iff.1 (unhide HKQ)).1).trans (unhide HKQ)
      have s0 : Y.cell? ⟨q, 0, none⟩ = some (.int .i32 x.1.1) := cell_at kqq
      have s1 : Y.cell? ⟨q, 1, none⟩ = some (.int .i64 x.1.2) := cell_at kqq
      have s2 : Y.cell? ⟨q, 2, none⟩ = some (.int .i64 x.2.1) := cell_at kqq
      have s3 : Y.cell? ⟨q, 3, none⟩ = some (.int .i64 x.2.2) := cell_at kqq
      have u0 : Y.cell? ⟨lb, 0, none⟩ = some (.int .i32 (lastP []).1.1) := cell_at klq
      have u1 : Y.cell? ⟨lb, 1, none⟩ = some (.int .i64 (lastP []).1.2) := cell_at klq
      have u2 : Y.cell? ⟨lb, 2, none⟩ = some (.int .i64 (lastP []).2.1) := cell_at klq
      have u3 : Y.cell? ⟨lb, 3, none⟩ = some (.int .i64 (lastP []).2.2) := cell_at klq
      have g0 : Y.frozen? ⟨lb, 0, none⟩ = false := frozen_of_heap klq
      have g1 : Y.frozen? ⟨lb, 1, none⟩ = false := frozen_of_heap klq
      have g2 : Y.frozen? ⟨lb, 2, none⟩ = false := frozen_of_heap klq
      have g3 : Y.frozen? ⟨lb, 3, none⟩ = false := frozen_of_heap klq
      obtain ⟨W7, hW7⟩ : ∃ W7, (((Y.setCell ⟨lb, 0, none⟩ (.int .i32 x.1.1)).setCell ⟨lb, 1, none⟩ (.int .i64 x.1.2)).setCell ⟨lb, 2, none⟩ (.int .i64 x.2.1)).setCell ⟨lb, 3, none⟩ (.int .i64 x.2.2) = W7 := ⟨_, rfl⟩
      have hrow : W7.heap[lb]? = some (.cells #[.int .i32 x.1.1, .int .i64 x.1.2, .int .i64 x.2.1, .int .i64 x.2.2] 32) := by rw [← hW7]; exact setrow4 klq
      have hup : Upd (TwoB lb nb) Y.heap.size Y W7 := by rw [← hW7]; exact upd4 (.inl (.inl rfl)) _ _ _ _
      have kn7 : W7.heap[nb]? = some (.cells #[.int .i64 ci] 3) := by
        rw [← hW7, Below.heap_setCell _ _ _ _ (show nb ≠ lb by omega), Below.heap_setCell _ _ _ _ (show nb ≠ lb by omega), Below.heap_setCell _ _ _ _ (show nb ≠ lb by omega), Below.heap_setCell _ _ _ _ (show nb ≠ lb by omega)]
        exact knq
      have y0 : W7.cell? ⟨nb, 0, none⟩ = some (.int .i64 ci) := cell_at kn7
      have y1 : W7.frozen? ⟨nb, 0, none⟩ = false := frozen_of_heap kn7
      have HFIN : Hid (KeepsFrom W2.heap.size W (W7.setCell ⟨nb, 0, none⟩ (.int .i64 (c1 : Int))) ∧ Keepb (fun k => k = gb) W (W7.setCell ⟨nb, 0, none⟩ (.int .i64 (c1 : Int))) ∧ RsI lb nb B W2 ([] ++ [x]) (W7.setCell ⟨nb, 0, none⟩ (.int .i64 (c1 : Int)))) := by
        have hU9 : Upd (TwoB lb nb) W.heap.size W (W7.setCell ⟨nb, 0, none⟩ (.int .i64 (c1 : Int))) := (Upd.of hbel).trans ((hup.less hbel.size).setCell (p := ⟨nb, 0, none⟩) (.inl (.inr rfl)) _)
        rw [hB]
        refine ⟨keepsFrom_upd hU9 (by rintro k (rfl | rfl) <;> omega), ⟨hU9.size, fun k hk => hU9.block k (by have : k = gb := hk; omega) (by have : k = gb := hk; rintro (e | e) <;> omega)⟩, ⟨?_, ?_⟩, (unhide HU).trans (hU9.less (by omega))⟩
        · rw [lastP_snoc, Below.heap_setCell _ _ _ _ (show lb ≠ nb by omega)]; exact hrow
        · have := box_set (.int .i64 (c1 : Int)) kn7
          have e9 : ([] ++ [x]).length = c1 := by rw [List.length_append]; simp only [List.length_singleton]; have := unhide HC; omega
          rw [e9]; exact this
      have HW7 := hide hW7
      clear hbel hrow hup kn7 klq knq kqq hW7
      gi_wp2_with (first | rw [unhide HY] | rw [unhide HW7] | (refine ⟨trivial, ?_⟩))
      try rw [unhide HW7]
      exact unhide HFIN
    · rw [List.concat_eq_append] at ep
      subst ep
      rw [lastP_snoc] at HKL
      have hlt : ltK y.1 x.1 := by
        obtain ⟨hr, hrise⟩ := unhide HPW
        rw [← hr] at hrise
        exact (List.pairwise_append.1 hrise).2.2 y (by simp) x (by simp)
      have hcp : 0 < ci := by obtain ⟨e1, e2, e3⟩ := unhide HC; rw [List.length_append] at e1; simp at e1; omega
      have hgt : decide ((0 : Int) < ci) = true := by simp; omega
      have hgt' : decide (ci > 0) = true := hgt
      have klY : Y.heap[lb]? = some (.cells #[.int .i32 y.1.1, .int .i64 y.1.2, .int .i64 y.2.1, .int .i64 y.2.2] 32) := ((unhide HBY).block lb (by omega)).trans (unhide HKL)
      have l0 : Y.cell? ⟨lb, 0, none⟩ = some (.int .i32 y.1.1) := cell_at klY
      have l1 : Y.cell? ⟨lb, 1, none⟩ = some (.int .i64 y.1.2) := cell_at klY
      have HLS := hide (less_yes y.1 x.1 hlt Y)
      clear hlt hcp klY
      gi_wp2_with (first | rw [unhide HY] | fail)
      refine ⟨trivial, (((callsIn_wide).2 (unhide HLS)).inRound lp).mono ?_⟩
      rintro e W6 ⟨rfl, hb6⟩
      have HB6 : Hid (Below W.heap.size W W6) := (unhide HBY).trans (hb6.mono (unhide HBY).size)
      have hn6 : W6.heap[nb]? = some (.cells #[.int .i64 ci] 3) := ((unhide HB6).block nb (by omega)).trans (unhide HKN)
      clear hb6 hn6 v0 v1 v2 v3 z0 z1 z2 z3 q0 q1 q2 q3 l0 l1 b0' m0 hlook
      have hbel := unhide HB6
      have klq : W6.heap[lb]? = some (.cells #[.int .i32 y.1.1, .int .i64 y.1.2, .int .i64 y.2.1, .int .i64 y.2.2] 32) := (hbel.block lb (by omega)).trans (unhide HKL)
      have knq : W6.heap[nb]? = some (.cells #[.int .i64 ci] 3) := (hbel.block nb (by omega)).trans (unhide HKN)
      have kqq : W6.heap[q]? = some (.cells #[.int .i32 x.1.1, .int .i64 x.1.2, .int .i64 x.2.1, .int .i64 x.2.2] 32) := (hbel.block q (Array.getElem?_eq_some_iff.1 (unhide HKQ)).1).trans (unhide HKQ)
      have s0 : W6.cell? ⟨q, 0, none⟩ = some (.int .i32 x.1.1) := cell_at kqq
      have s1 : W6.cell? ⟨q, 1, none⟩ = some (.int .i64 x.1.2) := cell_at kqq
      have s2 : W6.cell? ⟨q, 2, none⟩ = some (.int .i64 x.2.1) := cell_at kqq
      have s3 : W6.cell? ⟨q, 3, none⟩ = some (.int .i64 x.2.2) := cell_at kqq
      have u0 : W6.cell? ⟨lb, 0, none⟩ = some (.int .i32 y.1.1) := cell_at klq
      have u1 : W6.cell? ⟨lb, 1, none⟩ = some (.int .i64 y.1.2) := cell_at klq
      have u2 : W6.cell? ⟨lb, 2, none⟩ = some (.int .i64 y.2.1) := cell_at klq
      have u3 : W6.cell? ⟨lb, 3, none⟩ = some (.int .i64 y.2.2) := cell_at klq
      have g0 : W6.frozen? ⟨lb, 0, none⟩ = false := frozen_of_heap klq
      have g1 : W6.frozen? ⟨lb, 1, none⟩ = false := frozen_of_heap klq
      have g2 : W6.frozen? ⟨lb, 2, none⟩ = false := frozen_of_heap klq
      have g3 : W6.frozen? ⟨lb, 3, none⟩ = false := frozen_of_heap klq
      obtain ⟨W7, hW7⟩ : ∃ W7, (((W6.setCell ⟨lb, 0, none⟩ (.int .i32 x.1.1)).setCell ⟨lb, 1, none⟩ (.int .i64 x.1.2)).setCell ⟨lb, 2, none⟩ (.int .i64 x.2.1)).setCell ⟨lb, 3, none⟩ (.int .i64 x.2.2) = W7 := ⟨_, rfl⟩
      have hrow : W7.heap[lb]? = some (.cells #[.int .i32 x.1.1, .int .i64 x.1.2, .int .i64 x.2.1, .int .i64 x.2.2] 32) := by rw [← hW7]; exact setrow4 klq
      have hup : Upd (TwoB lb nb) W6.heap.size W6 W7 := by rw [← hW7]; exact upd4 (.inl (.inl rfl)) _ _ _ _
      have kn7 : W7.heap[nb]? = some (.cells #[.int .i64 ci] 3) := by
        rw [← hW7, Below.heap_setCell _ _ _ _ (show nb ≠ lb by omega), Below.heap_setCell _ _ _ _ (show nb ≠ lb by omega), Below.heap_setCell _ _ _ _ (show nb ≠ lb by omega), Below.heap_setCell _ _ _ _ (show nb ≠ lb by omega)]
        exact knq
      have y0 : W7.cell? ⟨nb, 0, none⟩ = some (.int .i64 ci) := cell_at kn7
      have y1 : W7.frozen? ⟨nb, 0, none⟩ = false := frozen_of_heap kn7
      have HFIN : Hid (KeepsFrom W2.heap.size W (W7.setCell ⟨nb, 0, none⟩ (.int .i64 (c1 : Int))) ∧ Keepb (fun k => k = gb) W (W7.setCell ⟨nb, 0, none⟩ (.int .i64 (c1 : Int))) ∧ RsI lb nb B W2 ((p ++ [y]) ++ [x]) (W7.setCell ⟨nb, 0, none⟩ (.int .i64 (c1 : Int)))) := by
        have hU9 : Upd (TwoB lb nb) W.heap.size W (W7.setCell ⟨nb, 0, none⟩ (.int .i64 (c1 : Int))) := (Upd.of hbel).trans ((hup.less hbel.size).setCell (p := ⟨nb, 0, none⟩) (.inl (.inr rfl)) _)
        rw [hB]
        refine ⟨keepsFrom_upd hU9 (by rintro k (rfl | rfl) <;> omega), ⟨hU9.size, fun k hk => hU9.block k (by have : k = gb := hk; omega) (by have : k = gb := hk; rintro (e | e) <;> omega)⟩, ⟨?_, ?_⟩, (unhide HU).trans (hU9.less (by omega))⟩
        · rw [lastP_snoc, Below.heap_setCell _ _ _ _ (show lb ≠ nb by omega)]; exact hrow
        · have := box_set (.int .i64 (c1 : Int)) kn7
          have e9 : ((p ++ [y]) ++ [x]).length = c1 := by rw [List.length_append]; simp only [List.length_singleton]; have := unhide HC; omega
          rw [e9]; exact this
      have HW7 := hide hW7
      clear hbel hrow hup kn7 klq knq kqq hW7
      gi_wp2_with (first | rw [unhide HY] | rw [unhide HW7] | (refine ⟨trivial, ?_⟩))
      try rw [unhide HW7]
      exact unhide HFIN
  case stop =>
    intro D cd pre W hD hX hK
    exact hX.elim
  case done =>
    intro D xs W hD hxs hI hK
    subst hxs
    obtain ⟨⟨kl, kn⟩, hU⟩ := hI
    have hsW : B ≤ W.heap.size := by have := hU.size; omega
    have hMW : MapL W mb L := hM2.keep (hU.block mb (by omega) (by rintro (e | e) <;> omega))
    have km : W.heap[mx]? = some (.cells #[.map (some mb)] 48) := (hU.block mx (by omega) (by rintro (e | e) <;> omega)).trans j0
    have kr : W.heap[rb]? = some (.cells #[.bool false] 4) := (hU.block rb (by omega) (by rintro (e | e) <;> omega)).trans j1
    have m0 : W.cell? ⟨mx, 0, none⟩ = some (.map (some mb)) := cell_at km
    rw [List.length_map] at kn
    have hlen := map_len hMW 3
    obtain ⟨c, hc⟩ : ∃ c, L.length = c := ⟨_, rfl⟩
    rw [hc] at kn hlen
    have c0 : W.cell? ⟨nb, 0, none⟩ = some (.int .i64 (c : Int)) := cell_at kn
    have c2 : W.cell? ⟨rb, 0, none⟩ = some (.bool false) := cell_at kr
    have f2 : W.frozen? ⟨rb, 0, none⟩ = false := frozen_of_heap kr
    have heq : ((c : Int) == (c : Int)) = true := by simp
    have hD' : B ≤ D := by rw [← hB]; exact hD
    have HM : Hid (Marks [{ target := .collected D, args := #[] }] W) := (Marks.nil W).cons hK (fun c => by cases c)
    have HB := hide (And.intro hbw (And.intro hU kr))
    clear hK hD hseq h2 hM2 j0 j1 j2 j3 hbw i0 hMW km kr kl kn hU hll hc
    gi_wp2
    obtain ⟨hbw, hU, kr⟩ := unhide HB
    have hr9 : (W.setCell ⟨rb, 0, none⟩ (.bool true)).heap[rb]? = some (.cells #[.bool true] 4) := box_set _ kr
    have hdm : ∀ k, isMark [{ target := .collected D, args := #[] }] k → B ≤ k := fun k c => by
      rcases List.mem_cons.1 c with e | e
      · simp only [Deferred.mk.injEq, Target.collected.injEq, and_true] at e; omega
      · cases e
    have hMk : Marks [{ target := .collected D, args := #[] }] (W.setCell ⟨rb, 0, none⟩ (.bool true)) := (unhide HM).keep fun k hk => Below.heap_setCell _ _ _ _ (by have := hdm k hk; show k ≠ rb; omega)
    refine leave_marks (w := W.setCell ⟨rb, 0, none⟩ (.bool true)) hMk fun w' hw => ?_
    have sz : (W.setCell ⟨rb, 0, none⟩ (.bool true)).heap.size = W.heap.size := by simp [World.setCell]
    have hc9 : w'.cell? ⟨rb, 0, none⟩ = some (.bool true) := cell_at ((hw.block rb (by omega) fun c => by have := hdm _ c; omega).trans hr9)
    have hU2 : Upd (fun k => k = rb ∨ TwoB lb nb k) B W2 w' := by
      refine ⟨hw.os.trans hU.os, hw.tape.trans hU.tape, hw.output.trans hU.output, Nat.le_trans hU.size (by have := hw.size; omega), fun k hk hn => ?_⟩
      rw [hw.block k (by omega) (fun c => by have := hdm k c; omega), Below.heap_setCell _ _ _ _ (show k ≠ rb from fun e => hn (.inl e))]
      exact hU.block k (by omega) fun c => hn (.inr c)
    refine ⟨.bool true, by simp [results, Tryd.results22, go_sem, hc9], rfl, hbw.trans ⟨hU2.os, hU2.tape, hU2.output, hU2.size, fun k hk => hU2.block k (by omega) (by rintro (e | e | e) <;> omega)⟩⟩
end Go.Proofs.YtdcmkapfcmibeaaDoor
