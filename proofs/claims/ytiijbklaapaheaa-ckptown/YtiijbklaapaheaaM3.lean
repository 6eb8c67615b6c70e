/- change, and what Program and Erase come to. -/
import Derived.Test.YtiijbklaapaheaaM2
namespace Go.Proofs.Ytiijbklaapaheaa
open Go.RowKit
set_option maxRecDepth 100000

/-- What a change leaves, and what it answers. -/
def Fl.changed (F : Fl) (act : Fl → Int → ByteArray → Fl) (s : Int) (b : ByteArray) : Fl :=
  if F.cnt = 1 then (if F.keep = 2 then act F.burnt s b else if F.keep = 1 then act F.burnt 1 ⟨#[]⟩ else F.burnt).fall else act F.burnt s b
def Fl.code (F : Fl) : Int := if F.cnt = 1 then 7 else 0

theorem burnt_of (F : Fl) (h : F.cnt ≠ 0) : F.burnt = { F with cnt := F.cnt - 1 } := by unfold Fl.burnt; rw [if_neg h]
theorem burnt_n (F : Fl) : F.burnt.n = F.n := by unfold Fl.burnt; split <;> rfl


set_option maxHeartbeats 1000000 in
theorem change_put {g h cap : Nat} {F : Fl} {w : World} (H : IsFl w g h cap F) (hc0 : 0 ≤ F.cnt) (hm : F.cnt ≤ 9223372036854775807) (cb i j : Nat) (hi : i < F.n) (hj : j < 16) (hcb : w.cell? ⟨cb, 0, none⟩ = some (.pointer (some ⟨g, i * 33 + j * 2, none⟩))) (hcg : cb ≠ g) (hch : cb ≠ h) (s : Int) (b : ByteArray) :
    Calls Try.prog 51 #[P0 h, .agg #[.int .i64 s, .string b], .func (.func 53) #[] #[P0 cb]] w fun e w' => e = .returned (.int .i64 F.code) ∧ IsFl w' g h cap (F.changed (fun (F : Fl) (s : Int) (b : ByteArray) => F.put i j s b) s b) ∧ Upd (Two g h) w.heap.size w w' := by
  have hl := World.block_lt_of_cell? w _ hcb
  have hg := H.glt
  have hh := H.hlt
  have hbx := World.cell?_alloc_mark w #[Value.int .i64 s, .string b] 99 (0, 0) 0
  have hbx1 := World.cell?_alloc_mark w #[Value.int .i64 s, .string b] 99 (0, 0) 1
  have HX : Hid (∀ wr, Upd (Two g h) (w.alloc (.cells #[.int .i64 s, .string b] 99)).heap.size (w.alloc (.cells #[.int .i64 s, .string b] 99)) wr → wr.cell? ⟨cb, 0, none⟩ = w.cell? ⟨cb, 0, none⟩ ∧ wr.cell? ⟨w.heap.size, 0, none⟩ = some (.int .i64 s) ∧ wr.cell? ⟨w.heap.size, 1, none⟩ = some (.string b)) := by
    intro wr hu
    have hsz : (w.alloc (.cells #[.int .i64 s, .string b] 99)).heap.size = w.heap.size + 1 := by simp
    rw [hsz] at hu
    refine ⟨?_, ?_, ?_⟩
    · rw [hu.cell (p := ⟨cb, 0, none⟩) (Nat.lt_succ_of_lt hl) (by show ¬ (cb = g ∨ cb = h); omega), ((Below.refl _ _).alloc (Nat.le_refl _) _).cell (B := w.heap.size) (p := ⟨cb, 0, none⟩) hl]
    · rw [hu.cell (p := ⟨w.heap.size, 0, none⟩) (Nat.lt_succ_self _) (by show ¬ (w.heap.size = g ∨ w.heap.size = h); omega)]; exact hbx
    · rw [hu.cell (p := ⟨w.heap.size, 1, none⟩) (Nat.lt_succ_self _) (by show ¬ (w.heap.size = g ∨ w.heap.size = h); omega)]; exact hbx1
  have HC := hide hcb
  have H0 := H.alloc (.cells #[.int .i64 s, .string b] 99)
  have HU0 : Hid (Upd (Two g h) w.heap.size w (w.alloc (.cells #[.int .i64 s, .string b] 99))) := (Upd.refl _ _ _).alloc (Nat.le_refl _) _
  have hsz : w.heap.size ≤ (w.alloc (.cells #[.int .i64 s, .string b] 99)).heap.size := by simp
  clear H hbx hbx1 hcb
  by_cases c0 : F.cnt = 0
  · have HB := hide (burn_no H0 c0)
    have hbt : F.burnt = F := by unfold Fl.burnt; rw [if_pos c0]
    have e1 : F.code = 0 := by unfold Fl.code; rw [if_neg (by omega)]
    have e2 : F.changed (fun (F : Fl) (s : Int) (b : ByteArray) => F.put i j s b) s b = (fun (F : Fl) (s : Int) (b : ByteArray) => F.put i j s b) F s b := by unfold Fl.changed; rw [if_neg (by omega), hbt]
    rw [e1, e2]
    have HI := hide H0
    obtain ⟨p1, p2, p3⟩ := unhide HX _ (Upd.refl _ _ _)
    rw [unhide HC] at p1
    have HP := hide (put_any (unhide HI) cb i j hi hj p1 s b)
    clear H0 hbt e1 e2 c0 hc0 hm
    go_enter Try.func51, Try.ntmps51
    go_wp2_with (first
      | (go_at_call 79; refine (unhide HB).mono ?_; rintro e w1 ⟨rfl, rfl⟩)
      | (go_at_call 53; refine (unhide HP).mono ?_; rintro e w2 ⟨rfl, hI2, hU2⟩))
    go_ret
    exact ⟨rfl, hI2, (unhide HU0).trans (hU2.less hsz)⟩
  have HB := hide (burn_yes H0 (by omega) hm)
  have hbt := burnt_of F c0
  by_cases c1 : F.cnt = 1
  · have e1 : F.code = 7 := by unfold Fl.code; rw [if_pos c1]
    have hdc : decide (F.cnt = 1) = true := by simpa using c1
    rw [hdc] at HB
    have HBT := hide hbt
    have C1 := hide c1
    rw [e1]
    clear H0 hbt hc0 hm e1 hdc c0 c1
    by_cases k2 : F.keep = 2
    · have e2 : F.changed (fun (F : Fl) (s : Int) (b : ByteArray) => F.put i j s b) s b = ((fun (F : Fl) (s : Int) (b : ByteArray) => F.put i j s b) F.burnt s b).fall := by unfold Fl.changed; rw [if_pos (unhide C1), if_pos k2]
      rw [e2, unhide HBT]
      rw [k2] at HB
      clear e2 k2
      go_enter Try.func51, Try.ntmps51
      go_wp2_with (first
        | (go_at_call 79; refine (unhide HB).mono ?_; rintro e w1 ⟨rfl, hI1, hU1⟩; obtain ⟨p1, p2, p3⟩ := unhide HX w1 hU1; rw [unhide HC] at p1; have HP := hide (put_any hI1 cb i j hi hj p1 s b); have HI1 := hide hI1; have HU1 := hide hU1; clear hI1 hU1)
        | (go_at_call 53; refine (unhide HP).mono ?_; rintro e w2 ⟨rfl, hI2, hU2⟩; have HF := hide (fall_any hI2); have HU2 := hide hU2; clear hI2 hU2)
        | (go_at_call 80; refine (unhide HF).mono ?_; rintro e w3 ⟨rfl, hI3, hU3⟩))
      go_ret
      have s1 := (unhide HU1).size
      have s2 := (unhide HU2).size
      exact ⟨rfl, hI3, (((unhide HU0).trans ((unhide HU1).less hsz)).trans ((unhide HU2).less (by omega))).trans (hU3.less (by omega))⟩
    · by_cases k1 : F.keep = 1
      · have e2 : F.changed (fun (F : Fl) (s : Int) (b : ByteArray) => F.put i j s b) s b = ((fun (F : Fl) (s : Int) (b : ByteArray) => F.put i j s b) F.burnt 1 ⟨#[]⟩).fall := by unfold Fl.changed; rw [if_pos (unhide C1), if_neg k2, if_pos k1]
        rw [e2, unhide HBT]
        rw [k1] at HB
        clear e2 k2 k1
        go_enter Try.func51, Try.ntmps51
        go_wp2_with (first
          | (go_at_call 79; refine (unhide HB).mono ?_; rintro e w1 ⟨rfl, hI1, hU1⟩; obtain ⟨p1, p2, p3⟩ := unhide HX w1 hU1; rw [unhide HC] at p1; have HP := hide (put_any hI1 cb i j hi hj p1 1 ⟨#[]⟩); have HI1 := hide hI1; have HU1 := hide hU1; clear hI1 hU1)
          | (go_at_call 53; refine (unhide HP).mono ?_; rintro e w2 ⟨rfl, hI2, hU2⟩; have HF := hide (fall_any hI2); have HU2 := hide hU2; clear hI2 hU2)
          | (go_at_call 80; refine (unhide HF).mono ?_; rintro e w3 ⟨rfl, hI3, hU3⟩))
        go_ret
        have s1 := (unhide HU1).size
        have s2 := (unhide HU2).size
        exact ⟨rfl, hI3, (((unhide HU0).trans ((unhide HU1).less hsz)).trans ((unhide HU2).less (by omega))).trans (hU3.less (by omega))⟩
      · have e2 : F.changed (fun (F : Fl) (s : Int) (b : ByteArray) => F.put i j s b) s b = F.burnt.fall := by unfold Fl.changed; rw [if_pos (unhide C1), if_neg k2, if_neg k1]
        rw [e2, unhide HBT]
        clear e2
        go_enter Try.func51, Try.ntmps51
        go_wp2_with (first
          | (go_at_call 79; refine (unhide HB).mono ?_; rintro e w1 ⟨rfl, hI1, hU1⟩; obtain ⟨p1, p2, p3⟩ := unhide HX w1 hU1; have HF := hide (fall_any hI1); have HU1 := hide hU1; clear hI1 hU1)
          | (go_at_call 80; refine (unhide HF).mono ?_; rintro e w3 ⟨rfl, hI3, hU3⟩))
        go_ret
        have s1 := (unhide HU1).size
        exact ⟨rfl, hI3, ((unhide HU0).trans ((unhide HU1).less hsz)).trans (hU3.less (by omega))⟩
  · have e1 : F.code = 0 := by unfold Fl.code; rw [if_neg c1]
    have e2 : F.changed (fun (F : Fl) (s : Int) (b : ByteArray) => F.put i j s b) s b = (fun (F : Fl) (s : Int) (b : ByteArray) => F.put i j s b) F.burnt s b := by unfold Fl.changed; rw [if_neg c1]
    have hdc : decide (F.cnt = 1) = false := by simpa using c1
    rw [hdc] at HB
    rw [e1, e2, hbt]
    clear H0 hbt hc0 hm e1 e2 hdc c0 c1
    go_enter Try.func51, Try.ntmps51
    go_wp2_with (first
      | (go_at_call 79; refine (unhide HB).mono ?_; rintro e w1 ⟨rfl, hI1, hU1⟩; obtain ⟨p1, p2, p3⟩ := unhide HX w1 hU1; rw [unhide HC] at p1; have HP := hide (put_any hI1 cb i j hi hj p1 s b); have HI1 := hide hI1; have HU1 := hide hU1; clear hI1 hU1)
      | (go_at_call 53; refine (unhide HP).mono ?_; rintro e w2 ⟨rfl, hI2, hU2⟩))
    go_ret
    have s1 := (unhide HU1).size
    exact ⟨rfl, hI2, ((unhide HU0).trans ((unhide HU1).less hsz)).trans (hU2.less (by omega))⟩

set_option maxHeartbeats 1000000 in
theorem change_anew {g h cap : Nat} {F : Fl} {w : World} (H : IsFl w g h cap F) (hc0 : 0 ≤ F.cnt) (hm : F.cnt ≤ 9223372036854775807) (cb i : Nat) (hi : i < F.n) (hcb : w.cell? ⟨cb, 0, none⟩ = some (.pointer (some ⟨g, i * 33, none⟩))) (hcg : cb ≠ g) (hch : cb ≠ h) (s : Int) (b : ByteArray) :
    Calls Try.prog 51 #[P0 h, .agg #[.int .i64 s, .string b], .func (.func 105) #[] #[P0 cb]] w fun e w' => e = .returned (.int .i64 F.code) ∧ IsFl w' g h cap (F.changed (fun (F : Fl) (s : Int) (b : ByteArray) => F.anew i s b) s b) ∧ Upd (Two g h) w.heap.size w w' := by
  have hl := World.block_lt_of_cell? w _ hcb
  have hg := H.glt
  have hh := H.hlt
  have hbx := World.cell?_alloc_mark w #[Value.int .i64 s, .string b] 99 (0, 0) 0
  have hbx1 := World.cell?_alloc_mark w #[Value.int .i64 s, .string b] 99 (0, 0) 1
  have HX : Hid (∀ wr, Upd (Two g h) (w.alloc (.cells #[.int .i64 s, .string b] 99)).heap.size (w.alloc (.cells #[.int .i64 s, .string b] 99)) wr → wr.cell? ⟨cb, 0, none⟩ = w.cell? ⟨cb, 0, none⟩ ∧ wr.cell? ⟨w.heap.size, 0, none⟩ = some (.int .i64 s) ∧ wr.cell? ⟨w.heap.size, 1, none⟩ = some (.string b)) := by
    intro wr hu
    have hsz : (w.alloc (.cells #[.int .i64 s, .string b] 99)).heap.size = w.heap.size + 1 := by simp
    rw [hsz] at hu
    refine ⟨?_, ?_, ?_⟩
    · rw [hu.cell (p := ⟨cb, 0, none⟩) (Nat.lt_succ_of_lt hl) (by show ¬ (cb = g ∨ cb = h); omega), ((Below.refl _ _).alloc (Nat.le_refl _) _).cell (B := w.heap.size) (p := ⟨cb, 0, none⟩) hl]
    · rw [hu.cell (p := ⟨w.heap.size, 0, none⟩) (Nat.lt_succ_self _) (by show ¬ (w.heap.size = g ∨ w.heap.size = h); omega)]; exact hbx
    · rw [hu.cell (p := ⟨w.heap.size, 1, none⟩) (Nat.lt_succ_self _) (by show ¬ (w.heap.size = g ∨ w.heap.size = h); omega)]; exact hbx1
  have HC := hide hcb
  have H0 := H.alloc (.cells #[.int .i64 s, .string b] 99)
  have HU0 : Hid (Upd (Two g h) w.heap.size w (w.alloc (.cells #[.int .i64 s, .string b] 99))) := (Upd.refl _ _ _).alloc (Nat.le_refl _) _
  have hsz : w.heap.size ≤ (w.alloc (.cells #[.int .i64 s, .string b] 99)).heap.size := by simp
  clear H hbx hbx1 hcb
  by_cases c0 : F.cnt = 0
  · have HB := hide (burn_no H0 c0)
    have hbt : F.burnt = F := by unfold Fl.burnt; rw [if_pos c0]
    have e1 : F.code = 0 := by unfold Fl.code; rw [if_neg (by omega)]
    have e2 : F.changed (fun (F : Fl) (s : Int) (b : ByteArray) => F.anew i s b) s b = (fun (F : Fl) (s : Int) (b : ByteArray) => F.anew i s b) F s b := by unfold Fl.changed; rw [if_neg (by omega), hbt]
    rw [e1, e2]
    have HI := hide H0
    obtain ⟨p1, p2, p3⟩ := unhide HX _ (Upd.refl _ _ _)
    rw [unhide HC] at p1
    have HP := hide (anew_any (unhide HI) cb i hi p1 hcg hch s b)
    clear H0 hbt e1 e2 c0 hc0 hm
    go_enter Try.func51, Try.ntmps51
    go_wp2_with (first
      | (go_at_call 79; refine (unhide HB).mono ?_; rintro e w1 ⟨rfl, rfl⟩)
      | (go_at_call 105; refine (unhide HP).mono ?_; rintro e w2 ⟨rfl, hI2, hU2⟩))
    go_ret
    exact ⟨rfl, hI2, (unhide HU0).trans (hU2.less hsz)⟩
  have HB := hide (burn_yes H0 (by omega) hm)
  have hbt := burnt_of F c0
  by_cases c1 : F.cnt = 1
  · have e1 : F.code = 7 := by unfold Fl.code; rw [if_pos c1]
    have hdc : decide (F.cnt = 1) = true := by simpa using c1
    rw [hdc] at HB
    have HBT := hide hbt
    have C1 := hide c1
    rw [e1]
    clear H0 hbt hc0 hm e1 hdc c0 c1
    by_cases k2 : F.keep = 2
    · have e2 : F.changed (fun (F : Fl) (s : Int) (b : ByteArray) => F.anew i s b) s b = ((fun (F : Fl) (s : Int) (b : ByteArray) => F.anew i s b) F.burnt s b).fall := by unfold Fl.changed; rw [if_pos (unhide C1), if_pos k2]
      rw [e2, unhide HBT]
      rw [k2] at HB
      clear e2 k2
      go_enter Try.func51, Try.ntmps51
      go_wp2_with (first
        | (go_at_call 79; refine (unhide HB).mono ?_; rintro e w1 ⟨rfl, hI1, hU1⟩; obtain ⟨p1, p2, p3⟩ := unhide HX w1 hU1; rw [unhide HC] at p1; have HP := hide (anew_any hI1 cb i hi p1 hcg hch s b); have HI1 := hide hI1; have HU1 := hide hU1; clear hI1 hU1)
        | (go_at_call 105; refine (unhide HP).mono ?_; rintro e w2 ⟨rfl, hI2, hU2⟩; have HF := hide (fall_any hI2); have HU2 := hide hU2; clear hI2 hU2)
        | (go_at_call 80; refine (unhide HF).mono ?_; rintro e w3 ⟨rfl, hI3, hU3⟩))
      go_ret
      have s1 := (unhide HU1).size
      have s2 := (unhide HU2).size
      exact ⟨rfl, hI3, (((unhide HU0).trans ((unhide HU1).less hsz)).trans ((unhide HU2).less (by omega))).trans (hU3.less (by omega))⟩
    · by_cases k1 : F.keep = 1
      · have e2 : F.changed (fun (F : Fl) (s : Int) (b : ByteArray) => F.anew i s b) s b = ((fun (F : Fl) (s : Int) (b : ByteArray) => F.anew i s b) F.burnt 1 ⟨#[]⟩).fall := by unfold Fl.changed; rw [if_pos (unhide C1), if_neg k2, if_pos k1]
        rw [e2, unhide HBT]
        rw [k1] at HB
        clear e2 k2 k1
        go_enter Try.func51, Try.ntmps51
        go_wp2_with (first
          | (go_at_call 79; refine (unhide HB).mono ?_; rintro e w1 ⟨rfl, hI1, hU1⟩; obtain ⟨p1, p2, p3⟩ := unhide HX w1 hU1; rw [unhide HC] at p1; have HP := hide (anew_any hI1 cb i hi p1 hcg hch 1 ⟨#[]⟩); have HI1 := hide hI1; have HU1 := hide hU1; clear hI1 hU1)
          | (go_at_call 105; refine (unhide HP).mono ?_; rintro e w2 ⟨rfl, hI2, hU2⟩; have HF := hide (fall_any hI2); have HU2 := hide hU2; clear hI2 hU2)
          | (go_at_call 80; refine (unhide HF).mono ?_; rintro e w3 ⟨rfl, hI3, hU3⟩))
        go_ret
        have s1 := (unhide HU1).size
        have s2 := (unhide HU2).size
        exact ⟨rfl, hI3, (((unhide HU0).trans ((unhide HU1).less hsz)).trans ((unhide HU2).less (by omega))).trans (hU3.less (by omega))⟩
      · have e2 : F.changed (fun (F : Fl) (s : Int) (b : ByteArray) => F.anew i s b) s b = F.burnt.fall := by unfold Fl.changed; rw [if_pos (unhide C1), if_neg k2, if_neg k1]
        rw [e2, unhide HBT]
        clear e2
        go_enter Try.func51, Try.ntmps51
        go_wp2_with (first
          | (go_at_call 79; refine (unhide HB).mono ?_; rintro e w1 ⟨rfl, hI1, hU1⟩; obtain ⟨p1, p2, p3⟩ := unhide HX w1 hU1; have HF := hide (fall_any hI1); have HU1 := hide hU1; clear hI1 hU1)
          | (go_at_call 80; refine (unhide HF).mono ?_; rintro e w3 ⟨rfl, hI3, hU3⟩))
        go_ret
        have s1 := (unhide HU1).size
        exact ⟨rfl, hI3, ((unhide HU0).trans ((unhide HU1).less hsz)).trans (hU3.less (by omega))⟩
  · have e1 : F.code = 0 := by unfold Fl.code; rw [if_neg c1]
    have e2 : F.changed (fun (F : Fl) (s : Int) (b : ByteArray) => F.anew i s b) s b = (fun (F : Fl) (s : Int) (b : ByteArray) => F.anew i s b) F.burnt s b := by unfold Fl.changed; rw [if_neg c1]
    have hdc : decide (F.cnt = 1) = false := by simpa using c1
    rw [hdc] at HB
    rw [e1, e2, hbt]
    clear H0 hbt hc0 hm e1 e2 hdc c0 c1
    go_enter Try.func51, Try.ntmps51
    go_wp2_with (first
      | (go_at_call 79; refine (unhide HB).mono ?_; rintro e w1 ⟨rfl, hI1, hU1⟩; obtain ⟨p1, p2, p3⟩ := unhide HX w1 hU1; rw [unhide HC] at p1; have HP := hide (anew_any hI1 cb i hi p1 hcg hch s b); have HI1 := hide hI1; have HU1 := hide hU1; clear hI1 hU1)
      | (go_at_call 105; refine (unhide HP).mono ?_; rintro e w2 ⟨rfl, hI2, hU2⟩))
    go_ret
    have s1 := (unhide HU1).size
    exact ⟨rfl, hI2, ((unhide HU0).trans ((unhide HU1).less hsz)).trans (hU2.less (by omega))⟩

end Go.Proofs.Ytiijbklaapaheaa
