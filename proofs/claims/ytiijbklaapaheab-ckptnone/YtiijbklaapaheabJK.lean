/- Several texts as one. -/
import Derived.Test.YtiijbklaapaheabJE
import Derived.Test.YtiijbklaapaheabCC
import Derived.Test.YtiijbklaapaheabWE

/- A flash that no call made: Load, Half, Save. -/
namespace Go.Proofs.Ytiijbklaapaheab
open Go.RowKit
set_option maxRecDepth 100000

theorem IsNo.below {w w' : World} {v : Value} (h : IsNo w v) (hb : Below w.heap.size w w') : IsNo w' v := by
  rcases h with rfl | ⟨k, rfl, hc⟩
  · exact Or.inl rfl
  · exact Or.inr ⟨k, rfl, (hb.cell (p := ⟨k, 0, none⟩) (World.block_lt_of_cell? w _ hc)).trans hc⟩

set_option maxHeartbeats 400000 in
theorem region_no {v : Value} {w : World} (H : IsNo w v) (f b : Int) :
    Calls Try.prog 10 #[v, .agg #[.int .i64 f, .int .i64 b]] w fun e w' => e = .returned (.int .i64 2) ∧ Below w.heap.size w w' := by
  have HM := hide (blocks_no (H.below ((Below.refl _ _).alloc (Nat.le_refl _) (.cells #[.int .i64 f, .int .i64 b] 23))))
  clear H
  go_enter Try.func10, Try.ntmps10
  go_wp2_with (go_at_call 19; refine (unhide HM).mono ?_; rintro e w' ⟨rfl, rfl⟩)
  go_ret
  exact ⟨rfl, (Below.refl _ _).alloc (Nat.le_refl _) _⟩

set_option maxHeartbeats 400000 in
theorem half_no {v : Value} {w : World} (H : IsNo w v) (f b : Int) :
    Calls Try.prog 6 #[v, .agg #[.int .i64 f, .int .i64 b]] w fun e w' => e = .returned (.tuple #[.int .i64 0, .int .i64 0, .bool false]) ∧ Below w.heap.size w w' := by
  have hal : Below w.heap.size w (w.alloc (.cells #[.int .i64 f, .int .i64 b] 23)) := (Below.refl _ _).alloc (Nat.le_refl _) _
  have HM := hide (region_no (H.below hal) f b)
  have HA := hide hal
  clear H hal
  go_enter Try.func6, Try.ntmps6
  go_wp2_with (go_at_call 10; refine (unhide HM).mono ?_; rintro e w1 ⟨rfl, hb1⟩; have HB1 := hide hb1; clear hb1)
  refine bodyPost_ret (v := .tuple #[.int .i64 0, .int .i64 0, .bool false]) (by simp [results, Try.results6, go_sem]) rfl ?_
  exact ⟨rfl, (unhide HA).trans ((unhide HB1).mono (unhide HA).size)⟩

set_option maxHeartbeats 400000 in
theorem save_no {v : Value} {w : World} (H : IsNo w v) (f b slot last : Int) (ao : Option Addr) (len cap : Nat) :
    Calls Try.prog 7 #[v, .agg #[.int .i64 f, .int .i64 b], .agg #[.int .i64 slot, .int .i64 last, .slice ao len cap]] w fun e w' => e = .returned (.int .i64 2) ∧ Below w.heap.size w w' := by
  obtain ⟨B, hB⟩ : ∃ B, (w.alloc (.cells #[.int .i64 f, .int .i64 b] 23)).alloc (.cells #[.int .i64 slot, .int .i64 last, .slice ao len cap] 26) = B := ⟨_, rfl⟩
  have HBB : Hid (Below w.heap.size w B) := hB ▸ ((Below.refl _ _).alloc (Nat.le_refl _) _).alloc (by simp) _
  have q0 : B.cell? ⟨w.heap.size, 0, none⟩ = some (.int .i64 f) := by rw [← hB]; simp [go_sem, World.cell?_alloc_old]
  have q1 : B.cell? ⟨w.heap.size, 1, none⟩ = some (.int .i64 b) := by rw [← hB]; simp [go_sem, World.cell?_alloc_old]
  have HM := hide (region_no (H.below (unhide HBB)) f b)
  clear H
  go_enter Try.func7, Try.ntmps7
  go_wp2_with (first | rw [hB] | (go_at_call 10; refine (unhide HM).mono ?_; rintro e w1 ⟨rfl, hb1⟩; have HB1 := hide hb1; clear hb1))
  go_ret
  exact ⟨rfl, (unhide HBB).trans ((unhide HB1).mono (unhide HBB).size)⟩

set_option maxHeartbeats 800000 in
theorem load_no {v : Value} {w : World} (H : IsNo w v) (f n : Int) :
    Calls Try.prog 5 #[v, .agg #[.int .i64 f, .int .i64 n]] w fun e w' => e = .returned (.tuple #[.agg #[.int .i64 0, .int .i64 0, .slice none 0 0], .bool false, .int .i64 2]) ∧ Below w.heap.size w w' := by
  obtain ⟨B, hB⟩ : ∃ B, (w.alloc (.cells #[.int .i64 f, .int .i64 n] 23)).alloc (.cells #[.int .i64 0, .int .i64 0, .slice none 0 0] 26) = B := ⟨_, rfl⟩
  have HBB : Hid (Below w.heap.size w B) := hB ▸ ((Below.refl _ _).alloc (Nat.le_refl _) _).alloc (by simp) _
  have HSZ : Hid (B.heap.size = w.heap.size + 2) := by show _ = _; rw [← hB]; simp
  have HBX : Hid (∀ x, Below B.heap.size B x → (x.cell? ⟨w.heap.size, 0, none⟩ = some (.int .i64 f) ∧ x.cell? ⟨w.heap.size, 1, none⟩ = some (.int .i64 n)) ∧ (x.cell? ⟨w.heap.size + 1, 0, none⟩ = some (.int .i64 0) ∧ x.cell? ⟨w.heap.size + 1, 1, none⟩ = some (.int .i64 0) ∧ x.cell? ⟨w.heap.size + 1, 2, none⟩ = some (.slice none 0 0)) ∧ ∀ o, x.frozen? ⟨w.heap.size + 1, o, none⟩ = false) := fun x hx => by
    have hs := unhide HSZ
    have c : ∀ b o, b < w.heap.size + 2 → x.cell? ⟨b, o, none⟩ = B.cell? ⟨b, o, none⟩ := fun b o hb => hx.cell (p := ⟨b, o, none⟩) (by show b < _; omega)
    have d : ∀ b o, b < w.heap.size + 2 → x.frozen? ⟨b, o, none⟩ = B.frozen? ⟨b, o, none⟩ := fun b o hb => World.frozen?_of_block (w := B) (hx.block b (by omega))
    refine ⟨⟨?_, ?_⟩, ⟨?_, ?_, ?_⟩, fun o => ?_⟩
    · rw [c _ _ (by omega), ← hB]; simp [go_sem, World.cell?_alloc_old]
    · rw [c _ _ (by omega), ← hB]; simp [go_sem, World.cell?_alloc_old]
    · rw [c _ _ (by omega), ← hB]; simp [go_sem]
    · rw [c _ _ (by omega), ← hB]; simp [go_sem]
    · rw [c _ _ (by omega), ← hB]; simp [go_sem]
    · rw [d _ _ (by omega), ← hB]; simp [go_sem]
  obtain ⟨⟨q0, q1⟩, _, _⟩ := unhide HBX B (Below.refl _ _)
  have HM := hide (region_no (H.below (unhide HBB)) f n)
  clear H
  go_enter Try.func5, Try.ntmps5
  go_wp2_with (rw [hB])
  refine (unhide HM).mono ?_
  rintro e w1 ⟨rfl, b1⟩
  have HB1 := hide b1
  clear b1 q0 q1
  obtain ⟨⟨q0, q1⟩, ⟨q2, q3, q4⟩, q5⟩ := unhide HBX w1 (unhide HB1)
  have HBW := hide ((unhide HBB).trans ((unhide HB1).mono (unhide HBB).size))
  go_wp2
  obtain ⟨k0, k1, k2⟩ := st3_cells (v0 := .int .i64 0) (v1 := .int .i64 0) (v2 := .slice none 0 0) q2 q3 q4
  have hbl := st3_below (unhide HBW) (show w.heap.size ≤ w.heap.size + 1 by omega) (.int .i64 0) (.int .i64 0) (.slice none 0 0)
  generalize ((w1.setCell ⟨w.heap.size + 1, 0, none⟩ (.int .i64 0)).setCell ⟨w.heap.size + 1, 1, none⟩ (.int .i64 0)).setCell ⟨w.heap.size + 1, 2, none⟩ (.slice none 0 0) = Y at *
  refine bodyPost_ret (v := .tuple #[.agg #[.int .i64 0, .int .i64 0, .slice none 0 0], .bool false, .int .i64 2]) (by simp [results, Try.results5, go_sem, k0, k1, k2]) rfl ?_
  exact ⟨rfl, hbl⟩

set_option maxHeartbeats 800000 in
theorem same_any (s1 l1 s2 l2 : Int) (av bv : Value) (xs ys : List Int) (w : World) (ha : Sees w .u8 av xs) (hb : Sees w .u8 bv ys) (hx : Byt xs) (hy : Byt ys) :
    Calls Try.prog 8 #[.agg #[.int .i64 s1, .int .i64 l1, av], .agg #[.int .i64 s2, .int .i64 l2, bv]] w fun e w' => e = .returned (.bool (decide (s1 = s2) && decide (l1 = l2) && decide (xs = ys))) ∧ Below w.heap.size w w' := by
  obtain ⟨ao, ac, rfl, _, _, _⟩ := id ha
  obtain ⟨bo, bc, rfl, _, _, _⟩ := id hb
  obtain ⟨B, hB⟩ : ∃ B, (w.alloc (.cells #[.int .i64 s1, .int .i64 l1, .slice ao xs.length ac] 26)).alloc (.cells #[.int .i64 s2, .int .i64 l2, .slice bo ys.length bc] 26) = B := ⟨_, rfl⟩
  have HBB : Hid (Below w.heap.size w B) := hB ▸ ((Below.refl _ _).alloc (Nat.le_refl _) _).alloc (by simp) _
  have HE := hide (equal_any _ _ xs ys B (ha.below (unhide HBB)) (hb.below (unhide HBB)) hx hy)
  have q0 : B.cell? ⟨w.heap.size, 0, none⟩ = some (.int .i64 s1) := by rw [← hB]; simp [go_sem, World.cell?_alloc_old]
  have q1 : B.cell? ⟨w.heap.size, 1, none⟩ = some (.int .i64 l1) := by rw [← hB]; simp [go_sem, World.cell?_alloc_old]
  have q2 : B.cell? ⟨w.heap.size, 2, none⟩ = some (.slice ao xs.length ac) := by rw [← hB]; simp [go_sem, World.cell?_alloc_old]
  have p0 : B.cell? ⟨w.heap.size + 1, 0, none⟩ = some (.int .i64 s2) := by rw [← hB]; simp [go_sem]
  have p1 : B.cell? ⟨w.heap.size + 1, 1, none⟩ = some (.int .i64 l2) := by rw [← hB]; simp [go_sem]
  have p2 : B.cell? ⟨w.heap.size + 1, 2, none⟩ = some (.slice bo ys.length bc) := by rw [← hB]; simp [go_sem]
  clear ha hb
  by_cases c0 : s1 = s2
  · subst c0
    by_cases c1 : l1 = l2
    · subst c1
      go_enter Try.func8, Try.ntmps8
      go_wp2_with (first | rw [hB] | fail)
      refine (unhide HE).mono ?_
      rintro e w1 ⟨rfl, rfl⟩
      go_wp2
      go_ret
      exact ⟨by simp, unhide HBB⟩
    · have c1' : (l1 == l2) = false := by simp [c1]
      go_enter Try.func8, Try.ntmps8
      go_wp2_with (first | rw [hB])
      go_ret
      exact ⟨by simp [c1], unhide HBB⟩
  · have c0' : (s1 == s2) = false := by simp [c0]
    go_enter Try.func8, Try.ntmps8
    go_wp2_with (first | rw [hB])
    go_ret
    exact ⟨by simp [c0], unhide HBB⟩

theorem same_zero (w : World) : Calls Try.prog 8 #[.agg #[.int .i64 0, .int .i64 0, .slice none 0 0], .agg #[.int .i64 0, .int .i64 0, .slice none 0 0]] w fun e w' => e = .returned (.bool true) ∧ Below w.heap.size w w' :=
  (same_any 0 0 0 0 (.slice none 0 0) (.slice none 0 0) [] [] w (Sees.nil _ _) (Sees.nil _ _) (fun b hb => by cases hb) (fun b hb => by cases hb)).mono fun e w' h => ⟨by simpa using h.1, h.2⟩
end Go.Proofs.Ytiijbklaapaheab

/- CkptNone: the walk. -/
namespace Go.Proofs.Ytiijbklaapaheab
open Go.RowKit
set_option maxRecDepth 100000

/-- Where the two that no call made stand. -/
def AtNo (W1 : World) (c : Value) (wr : World) : Prop := ∃ k : Nat, k ≤ 2 ∧ c = .int .i64 k ∧ Below W1.heap.size W1 wr

theorem box9 {w w1 : World} {x0 x1 x2 x3 x4 x5 x6 x7 x8 : Value} {t : TypeId} (hb : Below (w.heap.size + 1) (w.alloc (.cells #[x0, x1, x2, x3, x4, x5, x6, x7, x8] t)) w1) :
    w1.cell? ⟨w.heap.size, 1, none⟩ = some x1 ∧ w1.cell? ⟨w.heap.size, 2, none⟩ = some x2 ∧ w1.cell? ⟨w.heap.size, 3, none⟩ = some x3 ∧ w1.cell? ⟨w.heap.size, 4, none⟩ = some x4 ∧ w1.cell? ⟨w.heap.size, 5, none⟩ = some x5 := by
  have c : ∀ k, w1.cell? ⟨w.heap.size, k, none⟩ = (#[x0, x1, x2, x3, x4, x5, x6, x7, x8] : Array Value)[k]? := fun k => (hb.cell (p := ⟨w.heap.size, k, none⟩) (Nat.lt_succ_self _)).trans (World.cell?_alloc_mark w _ t (0, 0) k)
  exact ⟨c 1, c 2, c 3, c 4, c 5⟩

set_option maxHeartbeats 1600000 in
theorem none_walk (x0 f n slot last x6 x7 x8 : Int) (ao : Option Addr) (len cap : Nat) (w : World) (HBG : ∀ w : World, Calls Try.prog 4 #[] w fun e w' => e = .returned (.bool true) ∧ Below w.heap.size w w') :
    Calls Try.prog 3 #[.agg #[.int .i64 x0, .int .i64 f, .int .i64 n, .int .i64 slot, .int .i64 last, .slice ao len cap, .int .i64 x6, .int .i64 x7, .int .i64 x8]] w fun e w' => e = .returned (.bool true) ∧ Below w.heap.size w w' := by
  obtain ⟨B, hB⟩ : ∃ B, w.alloc (.cells #[.int .i64 x0, .int .i64 f, .int .i64 n, .int .i64 slot, .int .i64 last, .slice ao len cap, .int .i64 x6, .int .i64 x7, .int .i64 x8] 28) = B := ⟨_, rfl⟩
  have HB0 : Hid (Below w.heap.size w B) := by rw [← hB]; exact (Below.refl _ _).alloc (Nat.le_refl _) _
  have HSZ : Hid (B.heap.size = w.heap.size + 1) := by show _ = _; rw [← hB]; simp
  have HBX : Hid (∀ x, Below B.heap.size B x → x.cell? ⟨w.heap.size, 1, none⟩ = some (.int .i64 f) ∧ x.cell? ⟨w.heap.size, 2, none⟩ = some (.int .i64 n) ∧ x.cell? ⟨w.heap.size, 3, none⟩ = some (.int .i64 slot) ∧ x.cell? ⟨w.heap.size, 4, none⟩ = some (.int .i64 last) ∧ x.cell? ⟨w.heap.size, 5, none⟩ = some (.slice ao len cap)) := fun x hx => box9 (by rw [hB, ← unhide HSZ]; exact hx)
  go_enter Try.func3, Try.ntmps3
  go_wp2_with (first | rw [hB] | fail)
  refine (HBG B).mono ?_
  rintro e w1 ⟨rfl, hb1⟩
  have HB1 := hide hb1
  clear hb1
  obtain ⟨W1, hW1⟩ : ∃ W1, (w1.alloc (.cells #[.slice none 0 0, .int .i64 0, .int .i64 0, .bool false] 35)).alloc (.cells #[.pointer none, .pointer (some ⟨w1.heap.size, 0, none⟩)] 30) = W1 := ⟨_, rfl⟩
  have hsz : W1.heap.size = w1.heap.size + 2 := by rw [← hW1]; simp
  have bW : Below w1.heap.size w1 W1 := by rw [← hW1]; exact ((Below.refl _ _).alloc (Nat.le_refl _) _).alloc (by simp) _
  have HBW : Hid (Below B.heap.size B W1) := (unhide HB1).trans (bW.mono (unhide HB1).size)
  have HTWO : Hid (∀ k, k < 2 → ∃ v, (∀ w', Below W1.heap.size W1 w' → w'.cell? ⟨w1.heap.size + 1, k, none⟩ = some v) ∧ IsNo W1 v) := by
    have hz : W1.cell? ⟨w1.heap.size, 0, none⟩ = some (.slice none 0 0) := by
      rw [← hW1]; simp [go_sem, World.cell?_alloc_old]
    have hc : ∀ j, W1.cell? ⟨w1.heap.size + 1, j, none⟩ = (#[.pointer none, .pointer (some ⟨w1.heap.size, 0, none⟩)] : Array Value)[j]? := fun j => by
      rw [← hW1]
      have := World.cell?_alloc_mark (w1.alloc (.cells #[.slice none 0 0, .int .i64 0, .int .i64 0, .bool false] 35)) #[.pointer none, .pointer (some ⟨w1.heap.size, 0, none⟩)] 30 (0, 0) j
      rw [World.size_alloc] at this
      exact this
    intro k hk
    rcases (show k = 0 ∨ k = 1 by omega) with rfl | rfl
    · exact ⟨.pointer none, fun w' hb => (hb.cell (p := ⟨w1.heap.size + 1, 0, none⟩) (by show w1.heap.size + 1 < _; omega)).trans (hc 0), Or.inl rfl⟩
    · exact ⟨P0 w1.heap.size, fun w' hb => (hb.cell (p := ⟨w1.heap.size + 1, 1, none⟩) (by show w1.heap.size + 1 < _; omega)).trans (hc 1), Or.inr ⟨_, rfl, hz⟩⟩
  clear hsz bW
  go_wp2_with (rw [hW1])
  go_loopw [17] (fun c wr => AtNo W1 c wr) (fun c _ => 2 - (intOf c).toNat)
  case atStart => exact ⟨0, by omega, rfl, Below.refl _ _⟩
  case round =>
    obtain ⟨k, hk, rfl, hbr⟩ := hrel
    have HBR := hide hbr
    have HBr : Hid (Below B.heap.size B wr) := (unhide HBW).trans ((unhide HBR).mono (unhide HBW).size)
    have HC0 : Hid (∀ x, Below wr.heap.size wr x → Below W1.heap.size W1 x ∧ Below B.heap.size B x) := fun x hx => ⟨(unhide HBR).trans (hx.mono (unhide HBR).size), (unhide HBr).trans (hx.mono (unhide HBr).size)⟩
    by_cases hlt : k < 2
    · have hk0 : (0 : Int) ≤ (k : Int) := by omega
      have hk2 : (k : Int) < 2 := by omega
      obtain ⟨v, hv, hno⟩ := unhide HTWO k hlt
      have hv0 := hv wr hbr
      have HZ : Hid (∀ w', Below W1.heap.size W1 w' → IsNo w' v) := fun w' hb => hno.below hb
      have HZ0 := hide (unhide HZ wr hbr)
      obtain ⟨q1, q2, q3, q4, q5⟩ := unhide HBX wr (unhide HBr)
      clear hv hno hbr
      go_wp2_with fail
      refine (load_no (unhide HZ0) f n).mono ?_
      rintro e y4 ⟨rfl, hb4⟩
      have HB4 := hide hb4
      clear q1 q2 q3 q4 q5
      obtain ⟨q1, q2, q3, q4, q5⟩ := unhide HBX y4 (unhide HC0 y4 (unhide HB4)).2
      obtain ⟨k1, k2, k3, k4, k5⟩ := unhide HBX (y4.alloc (.cells #[.int .i64 0, .int .i64 0, .slice none 0 0] 26)) ((unhide HC0 y4 (unhide HB4)).2.alloc (unhide HC0 y4 (unhide HB4)).2.size _)
      go_wp2_with fail
      obtain ⟨Y, hY⟩ : ∃ Y, y4.alloc (.cells #[.int .i64 0, .int .i64 0, .slice none 0 0] 26) = Y := ⟨_, rfl⟩
      have bY : Below y4.heap.size y4 Y := hY ▸ (Below.refl _ _).alloc (Nat.le_refl _) _
      have HBY : Hid (Below wr.heap.size wr Y) := hb4.trans (bY.mono hb4.size)
      have HYX : Hid (∀ x, Below Y.heap.size Y x → x.cell? ⟨y4.heap.size, 0, none⟩ = some (.int .i64 0) ∧ x.cell? ⟨y4.heap.size, 1, none⟩ = some (.int .i64 0) ∧ x.cell? ⟨y4.heap.size, 2, none⟩ = some (.slice none 0 0)) := fun x hx => box3 (by rw [hY, show y4.heap.size + 1 = Y.heap.size by rw [← hY]; simp]; exact hx)
      clear hb4 bY q1 q2 q3 q4 q5 k1 k2 k3 k4 k5
      rw [hY]
      clear hY
      refine (half_no (unhide HZ Y (unhide HC0 Y (unhide HBY)).1) f n).mono ?_
      rintro e y5 ⟨rfl, hb5⟩
      have HB5 : Hid (Below Y.heap.size Y y5) := hb5
      have HBY5 : Hid (Below wr.heap.size wr y5) := (unhide HBY).trans (hb5.mono (unhide HBY).size)
      clear hb5
      obtain ⟨q1, q2, q3, q4, q5⟩ := unhide HBX y5 (unhide HC0 y5 (unhide HBY5)).2
      go_wp2_with fail
      refine (save_no (unhide HZ y5 (unhide HC0 y5 (unhide HBY5)).1) f n slot last ao len cap).mono ?_
      rintro e y6 ⟨rfl, hb6⟩
      have HBY6 : Hid (Below wr.heap.size wr y6) := (unhide HBY5).trans (hb6.mono (unhide HBY5).size)
      obtain ⟨p0, p1, p2⟩ := unhide HYX y6 ((unhide HB5).trans (hb6.mono (unhide HB5).size))
      clear hb6 q1 q2 q3 q4 q5
      go_wp2_with fail
      refine (same_zero y6).mono ?_
      rintro e y7 ⟨rfl, hb7⟩
      have HBY7 : Hid (Below wr.heap.size wr y7) := (unhide HBY6).trans (hb7.mono (unhide HBY6).size)
      clear hb7
      go_wp2
      go_roundw
      case rel => exact ⟨k + 1, by omega, by go_num, (unhide HC0 _ (unhide HBY7)).1⟩
      case measure => simp [intOf]; omega
    · have HEr : Hid (Below w.heap.size w wr) := (unhide HB0).trans ((unhide HBr).mono (unhide HB0).size)
      clear hbr
      go_wp2
      go_ret
      exact ⟨rfl, unhide HEr⟩
end Go.Proofs.Ytiijbklaapaheab
