/- HasPrefix, where it is so; what Load tells of a copy with the power back. -/
import Derived.Test.YtiijbklaapaheaaKH
import Derived.Test.YtiijbklaapaheaaKE
import Derived.Test.YtiijbklaapaheaaM9
namespace Go.Proofs.Ytiijbklaapaheaa
open Go.RowKit
set_option maxRecDepth 100000

set_option maxHeartbeats 800000 in
theorem hasPrefix_yes (sv fv : Value) (a fs : List Int) (w : World) (hs : Sees w .u8 sv (fs ++ a)) (hf : Sees w .u8 fv fs) (hb : Byt fs) :
    Calls Try.prog 23 #[sv, fv] w fun e w' => e = .returned (.bool true) ∧ w = w' := by
  obtain ⟨ao, cap, rfl, hcap, hnil, hc⟩ := id hs
  have hcut := sees_take hs fs.length (by simp)
  have hd : (fs ++ a).take fs.length = fs := by simp
  rw [hd] at hcut
  have HQ := hide (equal_any _ _ fs fs w hcut hf hb hb)
  rw [decide_eq_true rfl] at HQ
  obtain ⟨af, cf, rfl, _⟩ := hf
  have hMN : fs.length ≤ (fs ++ a).length := by simp
  generalize (fs ++ a).length = N at hcap hMN ⊢
  generalize fs.length = M at HQ hMN ⊢
  clear hc hs hcut hnil hd hb
  have h3 : (M : Int) ≤ (N : Int) := by omega
  have h4 : M ≤ cap := by omega
  go_enter Try.func23, Try.ntmps23
  go_wp2_with fail
  refine (unhide HQ).mono ?_
  rintro e w' ⟨rfl, rfl⟩
  go_wp2
  go_ret
  exact ⟨rfl, rfl⟩

/-- The flash with the power back. -/
def Fl.up (F : Fl) : Fl := { F with down := false }
theorem up_of {F : Fl} (h : F.down = false) : F.up = F := by cases F; simp only at h; subst h; rfl
theorem Sm.up {F : Fl} (h : Sm F) : Sm F.up := h

theorem restart_all {g h cap : Nat} {F : Fl} {w : World} (H : IsFl w g h cap F) :
    Calls Try.prog 48 #[P0 h] w fun e w' => ∃ x, e = .returned (.int .i64 x) ∧ IsFl w' g h cap F.up ∧ Upd (Two g h) w.heap.size w w' := by
  by_cases hd : F.down = true
  · refine (restart_ok H hd).mono ?_
    rintro e w' ⟨rfl, hI, hU⟩
    exact ⟨0, rfl, hI, hU⟩
  · have hd' : F.down = false := by simpa using hd
    refine (restart_up H hd').mono ?_
    rintro e w' ⟨rfl, rfl⟩
    exact ⟨1, rfl, by rw [up_of hd']; exact H, Upd.refl _ _ _⟩

set_option maxHeartbeats 1600000 in
theorem state_any {w : World} {g h cap : Nat} {F : Fl} (H : IsFl w g h cap F) (hS : Sm F) (f n : Nat) (hfn : f + n ≤ F.n) (hr0 : regE F.n f n = 0) :
    Calls Try.prog 19 #[P0 h, .agg #[.int .i64 f, .int .i64 n]] w fun e w' => ∃ dv, e = .returned (.tuple #[.agg #[.int .i64 (nwk F.up f (n / 2) 2).ck.slot, .int .i64 (nwk F.up f (n / 2) 2).ck.last, dv], .bool (decide (0 < (nwk F.up f (n / 2) 2).ck.num))]) ∧ w'.ownsRow w.heap.size 5 1 dv (nwk F.up f (n / 2) 2).ck.data.length (ints .u8 (nwk F.up f (n / 2) 2).ck.data) ∧ Below w.heap.size w w' := by
  have hle := H.le
  obtain ⟨B, hB⟩ : ∃ B, (w.alloc (.cells #[.int .i64 f, .int .i64 n] 26)).alloc (.cells #[.int .i64 0, .int .i64 0, .slice none 0 0] 24) = B := ⟨_, rfl⟩
  have HBB : Hid (Below w.heap.size w B) := hB ▸ ((Below.refl _ _).alloc (Nat.le_refl _) _).alloc (by simp) _
  have HSZ : Hid (B.heap.size = w.heap.size + 2) := by show _ = _; rw [← hB]; simp
  have HBX : Hid (∀ x, Below B.heap.size B x → (x.cell? ⟨w.heap.size, 0, none⟩ = some (.int .i64 f) ∧ x.cell? ⟨w.heap.size, 1, none⟩ = some (.int .i64 n)) ∧ (x.cell? ⟨w.heap.size + 1, 0, none⟩ = some (.int .i64 0) ∧ x.cell? ⟨w.heap.size + 1, 1, none⟩ = some (.int .i64 0) ∧ x.cell? ⟨w.heap.size + 1, 2, none⟩ = some (.slice none 0 0)) ∧ ∀ o, x.frozen? ⟨w.heap.size + 1, o, none⟩ = false) := fun x hx => by
    have hs := unhide HSZ
    have c : ∀ b o, b < w.heap.size + 2 → x.cell? ⟨b, o, none⟩ = B.cell? ⟨b, o, none⟩ := fun b o hb => hx.cell (p := ⟨b, o, none⟩) (by show b < _; omega)
    have d : ∀ b o, b < w.heap.size + 2 → x.frozen? ⟨b, o, none⟩ = B.frozen? ⟨b, o, none⟩ := fun b o hb => World.frozen?_of_block (w := B) (hx.block b (by omega))
    refine ⟨⟨?_, ?_⟩, ⟨?_, ?_, ?_⟩, fun o => ?_⟩
    · rw [c _ _ (by omega), ← hB]; simp [go_sem, World.cell?_alloc_old]
    · rw [c _ _ (by omega), ← hB]; simp [go_sem, World.cell?_alloc_old]
    · rw [c _ _ (by omega), ← hB]; simp [go_sem]
    · rw [c _ _ (by omega), ← hB]; simp [go_sem]
    · rw [c _ _ (by omega), ← hB]; simp [go_sem]
    · rw [d _ _ (by omega), ← hB]; simp [go_sem]
  have HI := hide (H.below (unhide HBB))
  clear H
  go_enter Try.func19, Try.ntmps19
  go_wp2_with (first | rw [hB] | fail)
  refine (fclone_any (unhide HI)).mono ?_
  rintro e w1 ⟨g', h', cap', rfl, i1, b1, hg', hh'⟩
  have HI1 := hide (restart_all i1)
  have HB1 := hide b1
  clear i1 b1
  go_wp2_with fail
  refine (unhide HI1).mono ?_
  rintro e w2 ⟨x2, rfl, i2, u2⟩
  have HB2 : Hid (Below B.heap.size B w2) := (unhide HB1).trans (u2.below (unhide HB1).size (fun k hk c => by rcases c with rfl | rfl <;> omega))
  have HLD := hide (load_ok i2 hS.up.hP f n hfn hr0 rfl)
  clear i2 u2 HI1
  obtain ⟨⟨q0, q1⟩, ⟨q2, q3, q4⟩, q5⟩ := unhide HBX w2 (unhide HB2)
  generalize hgc : nwk F.up f (n / 2) 2 = c at HLD ⊢
  generalize hdb : decide (0 < c.ck.num) = db at HLD
  cases db
  case false =>
    go_wp2_with fail
    refine (unhide HLD).mono ?_
    rintro e w3 ⟨dv, rfl, ho3, b3⟩
    obtain ⟨na, nc, rfl⟩ := own_shape ho3
    obtain ⟨W3, hW3⟩ : ∃ W3, w3.alloc (.cells #[.int .i64 c.ck.slot, .int .i64 c.ck.last, .slice na c.ck.data.length nc] 24) = W3 := ⟨_, rfl⟩
    have bW3 : Below w3.heap.size w3 W3 := hW3 ▸ (Below.refl _ _).alloc (Nat.le_refl _) _
    have hsW3 : W3.heap.size = w3.heap.size + 1 := by rw [← hW3]; simp
    have X3 := box3 (w := w3) (w1 := W3) (x0 := .int .i64 c.ck.slot) (x1 := .int .i64 c.ck.last) (x2 := .slice na c.ck.data.length nc) (t := 24) (by rw [hW3]; exact Below.refl _ _)
    have HB3 : Hid (Below B.heap.size B W3) := (unhide HB2).trans ((b3.trans (bW3.mono b3.size)).mono (unhide HB2).size)
    have HO3 : Hid (W3.ownsRow w2.heap.size 5 1 (.slice na c.ck.data.length nc) c.ck.data.length (ints .u8 c.ck.data)) := own_below ho3 bW3
    have HL : Hid (w.heap.size + 1 < w2.heap.size) := by show _ < _; have := (unhide HB2).size; have := unhide HSZ; omega
    have HBW := hide ((unhide HBB).trans ((unhide HB3).mono (unhide HBB).size))
    clear ho3 b3 bW3 hsW3 q0 q1 q2 q3 q4 q5 HLD
    obtain ⟨⟨q0, q1⟩, ⟨q2, q3, q4⟩, q5⟩ := unhide HBX W3 (unhide HB3)
    obtain ⟨x0, x1, x2⟩ := X3
    go_wp2_with (first | rw [hW3] | fail)
    obtain ⟨k0, k1, k2⟩ := st3_cells (v0 := .int .i64 c.ck.slot) (v1 := .int .i64 c.ck.last) (v2 := .slice na c.ck.data.length nc) q2 q3 q4
    have hbl := st3_below (unhide HBW) (show w.heap.size ≤ w.heap.size + 1 by omega) (.int .i64 c.ck.slot) (.int .i64 c.ck.last) (.slice na c.ck.data.length nc)
    have hlt := unhide HL
    have hor := own_set (own_set (own_set (unhide HO3) (p := ⟨w.heap.size + 1, 0, none⟩) (by show w.heap.size + 1 < _; omega) (.int .i64 c.ck.slot)) (p := ⟨w.heap.size + 1, 1, none⟩) (by show w.heap.size + 1 < _; omega) (.int .i64 c.ck.last)) (p := ⟨w.heap.size + 1, 2, none⟩) (by show w.heap.size + 1 < _; omega) (.slice na c.ck.data.length nc)
    generalize ((W3.setCell ⟨w.heap.size + 1, 0, none⟩ (.int .i64 c.ck.slot)).setCell ⟨w.heap.size + 1, 1, none⟩ (.int .i64 c.ck.last)).setCell ⟨w.heap.size + 1, 2, none⟩ (.slice na c.ck.data.length nc) = Y at *
    refine bodyPost_ret (v := .tuple #[.agg #[.int .i64 c.ck.slot, .int .i64 c.ck.last, .slice na c.ck.data.length nc], .bool false]) (by simp [results, Try.results19, go_sem, k0, k1, k2]) rfl ?_
    rw [hgc, hdb]
    exact ⟨_, rfl, own_lower (b := w2.heap.size) hor (by omega), hbl⟩
  case true =>
    go_wp2_with fail
    refine (unhide HLD).mono ?_
    rintro e w3 ⟨dv, rfl, ho3, b3⟩
    obtain ⟨na, nc, rfl⟩ := own_shape ho3
    obtain ⟨W3, hW3⟩ : ∃ W3, w3.alloc (.cells #[.int .i64 c.ck.slot, .int .i64 c.ck.last, .slice na c.ck.data.length nc] 24) = W3 := ⟨_, rfl⟩
    have bW3 : Below w3.heap.size w3 W3 := hW3 ▸ (Below.refl _ _).alloc (Nat.le_refl _) _
    have hsW3 : W3.heap.size = w3.heap.size + 1 := by rw [← hW3]; simp
    have X3 := box3 (w := w3) (w1 := W3) (x0 := .int .i64 c.ck.slot) (x1 := .int .i64 c.ck.last) (x2 := .slice na c.ck.data.length nc) (t := 24) (by rw [hW3]; exact Below.refl _ _)
    have HB3 : Hid (Below B.heap.size B W3) := (unhide HB2).trans ((b3.trans (bW3.mono b3.size)).mono (unhide HB2).size)
    have HO3 : Hid (W3.ownsRow w2.heap.size 5 1 (.slice na c.ck.data.length nc) c.ck.data.length (ints .u8 c.ck.data)) := own_below ho3 bW3
    have HL : Hid (w.heap.size + 1 < w2.heap.size) := by show _ < _; have := (unhide HB2).size; have := unhide HSZ; omega
    have HBW := hide ((unhide HBB).trans ((unhide HB3).mono (unhide HBB).size))
    clear ho3 b3 bW3 hsW3 q0 q1 q2 q3 q4 q5 HLD
    obtain ⟨⟨q0, q1⟩, ⟨q2, q3, q4⟩, q5⟩ := unhide HBX W3 (unhide HB3)
    obtain ⟨x0, x1, x2⟩ := X3
    go_wp2_with (first | rw [hW3] | fail)
    obtain ⟨k0, k1, k2⟩ := st3_cells (v0 := .int .i64 c.ck.slot) (v1 := .int .i64 c.ck.last) (v2 := .slice na c.ck.data.length nc) q2 q3 q4
    have hbl := st3_below (unhide HBW) (show w.heap.size ≤ w.heap.size + 1 by omega) (.int .i64 c.ck.slot) (.int .i64 c.ck.last) (.slice na c.ck.data.length nc)
    have hlt := unhide HL
    have hor := own_set (own_set (own_set (unhide HO3) (p := ⟨w.heap.size + 1, 0, none⟩) (by show w.heap.size + 1 < _; omega) (.int .i64 c.ck.slot)) (p := ⟨w.heap.size + 1, 1, none⟩) (by show w.heap.size + 1 < _; omega) (.int .i64 c.ck.last)) (p := ⟨w.heap.size + 1, 2, none⟩) (by show w.heap.size + 1 < _; omega) (.slice na c.ck.data.length nc)
    generalize ((W3.setCell ⟨w.heap.size + 1, 0, none⟩ (.int .i64 c.ck.slot)).setCell ⟨w.heap.size + 1, 1, none⟩ (.int .i64 c.ck.last)).setCell ⟨w.heap.size + 1, 2, none⟩ (.slice na c.ck.data.length nc) = Y at *
    refine bodyPost_ret (v := .tuple #[.agg #[.int .i64 c.ck.slot, .int .i64 c.ck.last, .slice na c.ck.data.length nc], .bool true]) (by simp [results, Try.results19, go_sem, k0, k1, k2]) rfl ?_
    rw [hgc, hdb]
    exact ⟨_, rfl, own_lower (b := w2.heap.size) hor (by omega), hbl⟩
end Go.Proofs.Ytiijbklaapaheaa
