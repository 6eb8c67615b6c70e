/- Several texts as one. -/
import Derived.Test.YtiijbklaapaheaaGreatKR
import Derived.Test.YtiijbklaapaheaaGreatKT

/- change, and what Program and Erase come to. -/
namespace Go.Proofs.YtiijbklaapaheaaGreat
open Go.RowKit
set_option maxRecDepth 100000

/-- What a change leaves, and what it answers. -/
def Fl.changed (F : Fl) (act : Fl → Int → ByteArray → Fl) (s : Int) (b : ByteArray) : Fl :=
  if F.cnt = 1 then (if F.keep = 2 then act F.burnt s b else if F.keep = 1 then act F.burnt 1 ⟨#[]⟩ else F.burnt).fall else act F.burnt s b
def Fl.code (F : Fl) : Int := if F.cnt = 1 then 7 else 0

theorem burnt_of (F : Fl) (h : F.cnt ≠ 0) : F.burnt = { F with cnt := F.cnt - 1 } := by unfold Fl.burnt; rw [if_neg h]
theorem burnt_n (F : Fl) : F.burnt.n = F.n := by unfold Fl.burnt; split <;> rfl


set_option maxHeartbeats 1000000 in
theorem change_put {g h cap : Nat} {F : Fl} {w : World} (H : IsFl w g h cap F) (hc0 : 0 ≤ F.cnt) (hm : F.cnt ≤ 9223372036854775807) (cb i j : Nat) (hi : i < F.n) (hj : j < 16) (hcb : w.cell? ⟨cb, 0, none⟩ = some (.pointer (some ⟨g, i * 33 + j * 2, none⟩))) (hcg : cb ≠ g) (hch : cb ≠ h) (s : Int) (b : ByteArray) :
    Calls Tryz.prog 48 #[P0 h, .agg #[.int .i64 s, .string b], .func (.func 54) #[] #[P0 cb]] w fun e w' => e = .returned (.int .i64 F.code) ∧ IsFl w' g h cap (F.changed (fun (F : Fl) (s : Int) (b : ByteArray) => F.put i j s b) s b) ∧ Upd (Two g h) w.heap.size w w' := by
  have hl := World.block_lt_of_cell? w _ hcb
  have hg := H.glt
  have hh := H.hlt
  have hbx := World.cell?_alloc_mark w #[Value.int .i64 s, .string b] 96 (0, 0) 0
  have hbx1 := World.cell?_alloc_mark w #[Value.int .i64 s, .string b] 96 (0, 0) 1
  have HX : Hid (∀ wr, Upd (Two g h) (w.alloc (.cells #[.int .i64 s, .string b] 96)).heap.size (w.alloc (.cells #[.int .i64 s, .string b] 96)) wr → wr.cell? ⟨cb, 0, none⟩ = w.cell? ⟨cb, 0, none⟩ ∧ wr.cell? ⟨w.heap.size, 0, none⟩ = some (.int .i64 s) ∧ wr.cell? ⟨w.heap.size, 1, none⟩ = some (.string b)) := by
    intro wr hu
    have hsz : (w.alloc (.cells #[.int .i64 s, .string b] 96)).heap.size = w.heap.size + 1 := by simp
    rw [hsz] at hu
    refine ⟨?_, ?_, ?_⟩
    · rw [hu.cell (p := ⟨cb, 0, none⟩) (Nat.lt_succ_of_lt hl) (by show ¬ (cb = g ∨ cb = h); omega), ((Below.refl _ _).alloc (Nat.le_refl _) _).cell (B := w.heap.size) (p := ⟨cb, 0, none⟩) hl]
    · rw [hu.cell (p := ⟨w.heap.size, 0, none⟩) (Nat.lt_succ_self _) (by show ¬ (w.heap.size = g ∨ w.heap.size = h); omega)]; exact hbx
    · rw [hu.cell (p := ⟨w.heap.size, 1, none⟩) (Nat.lt_succ_self _) (by show ¬ (w.heap.size = g ∨ w.heap.size = h); omega)]; exact hbx1
  have HC := hide hcb
  have H0 := H.alloc (.cells #[.int .i64 s, .string b] 96)
  have HU0 : Hid (Upd (Two g h) w.heap.size w (w.alloc (.cells #[.int .i64 s, .string b] 96))) := (Upd.refl _ _ _).alloc (Nat.le_refl _) _
  have hsz : w.heap.size ≤ (w.alloc (.cells #[.int .i64 s, .string b] 96)).heap.size := by simp
  clear H hbx hbx1 hcb
  by_cases c0 : F.cnt = 0
  · have HB := hide (burn_no H0 c0)
    have hbt : F.burnt = F := by unfold Fl.burnt; rw [if_pos c0]
    have e1 : F.code = 0 := by unfold Fl.code; rw [if_neg (by omega)]
    have e2 : F.changed (fun (F : Fl) (s : Int) (b : ByteArray) => F.put i j s b) s b = (fun (F : Fl) (s : Int) (b : ByteArray) => F.put i j s b) F s b := by unfold Fl.changed; rw [if_neg (by omega), hbt]
    rw [e1, e2]
    have HI := hide H0
    obtain ⟨p1, p2, p3⟩ := unhide HX _ (Upd.refl _ _ _)
    rw [unhide HC] at p1
    have HP := hide (put_any (unhide HI) cb i j hi hj p1 s b)
    clear H0 hbt e1 e2 c0 hc0 hm
    go_enter Tryz.func48, Tryz.ntmps48
    go_wp2_with (first
      | (go_at_call 75; refine (unhide HB).mono ?_; rintro e w1 ⟨rfl, rfl⟩)
      | (go_at_call 54; refine (unhide HP).mono ?_; rintro e w2 ⟨rfl, hI2, hU2⟩))
    go_ret
    exact ⟨rfl, hI2, (unhide HU0).trans (hU2.less hsz)⟩
  have HB := hide (burn_yes H0 (by omega) hm)
  have hbt := burnt_of F c0
  by_cases c1 : F.cnt = 1
  · have e1 : F.code = 7 := by unfold Fl.code; rw [if_pos c1]
    have hdc : decide (F.cnt = 1) = true := by simpa using c1
    rw [hdc] at HB
    have HBT := hide hbt
    have C1 := hide c1
    rw [e1]
    clear H0 hbt hc0 hm e1 hdc c0 c1
    by_cases k2 : F.keep = 2
    · have e2 : F.changed (fun (F : Fl) (s : Int) (b : ByteArray) => F.put i j s b) s b = ((fun (F : Fl) (s : Int) (b : ByteArray) => F.put i j s b) F.burnt s b).fall := by unfold Fl.changed; rw [if_pos (unhide C1), if_pos k2]
      rw [e2, unhide HBT]
      rw [k2] at HB
      clear e2 k2
      go_enter Tryz.func48, Tryz.ntmps48
      go_wp2_with (first
        | (go_at_call 75; refine (unhide HB).mono ?_; rintro e w1 ⟨rfl, hI1, hU1⟩; obtain ⟨p1, p2, p3⟩ := unhide HX w1 hU1; rw [unhide HC] at p1; have HP := hide (put_any hI1 cb i j hi hj p1 s b); have HI1 := hide hI1; have HU1 := hide hU1; clear hI1 hU1)
        | (go_at_call 54; refine (unhide HP).mono ?_; rintro e w2 ⟨rfl, hI2, hU2⟩; have HF := hide (fall_any hI2); have HU2 := hide hU2; clear hI2 hU2)
        | (go_at_call 46; refine (unhide HF).mono ?_; rintro e w3 ⟨rfl, hI3, hU3⟩))
      go_ret
      have s1 := (unhide HU1).size
      have s2 := (unhide HU2).size
      exact ⟨rfl, hI3, (((unhide HU0).trans ((unhide HU1).less hsz)).trans ((unhide HU2).less (by omega))).trans (hU3.less (by omega))⟩
    · by_cases k1 : F.keep = 1
      · have e2 : F.changed (fun (F : Fl) (s : Int) (b : ByteArray) => F.put i j s b) s b = ((fun (F : Fl) (s : Int) (b : ByteArray) => F.put i j s b) F.burnt 1 ⟨#[]⟩).fall := by unfold Fl.changed; rw [if_pos (unhide C1), if_neg k2, if_pos k1]
        rw [e2, unhide HBT]
        rw [k1] at HB
        clear e2 k2 k1
        go_enter Tryz.func48, Tryz.ntmps48
        go_wp2_with (first
          | (go_at_call 75; refine (unhide HB).mono ?_; rintro e w1 ⟨rfl, hI1, hU1⟩; obtain ⟨p1, p2, p3⟩ := unhide HX w1 hU1; rw [unhide HC] at p1; have HP := hide (put_any hI1 cb i j hi hj p1 1 ⟨#[]⟩); have HI1 := hide hI1; have HU1 := hide hU1; clear hI1 hU1)
          | (go_at_call 54; refine (unhide HP).mono ?_; rintro e w2 ⟨rfl, hI2, hU2⟩; have HF := hide (fall_any hI2); have HU2 := hide hU2; clear hI2 hU2)
          | (go_at_call 46; refine (unhide HF).mono ?_; rintro e w3 ⟨rfl, hI3, hU3⟩))
        go_ret
        have s1 := (unhide HU1).size
        have s2 := (unhide HU2).size
        exact ⟨rfl, hI3, (((unhide HU0).trans ((unhide HU1).less hsz)).trans ((unhide HU2).less (by omega))).trans (hU3.less (by omega))⟩
      · have e2 : F.changed (fun (F : Fl) (s : Int) (b : ByteArray) => F.put i j s b) s b = F.burnt.fall := by unfold Fl.changed; rw [if_pos (unhide C1), if_neg k2, if_neg k1]
        rw [e2, unhide HBT]
        clear e2
        go_enter Tryz.func48, Tryz.ntmps48
        go_wp2_with (first
          | (go_at_call 75; refine (unhide HB).mono ?_; rintro e w1 ⟨rfl, hI1, hU1⟩; obtain ⟨p1, p2, p3⟩ := unhide HX w1 hU1; have HF := hide (fall_any hI1); have HU1 := hide hU1; clear hI1 hU1)
          | (go_at_call 46; refine (unhide HF).mono ?_; rintro e w3 ⟨rfl, hI3, hU3⟩))
        go_ret
        have s1 := (unhide HU1).size
        exact ⟨rfl, hI3, ((unhide HU0).trans ((unhide HU1).less hsz)).trans (hU3.less (by omega))⟩
  · have e1 : F.code = 0 := by unfold Fl.code; rw [if_neg c1]
    have e2 : F.changed (fun (F : Fl) (s : Int) (b : ByteArray) => F.put i j s b) s b = (fun (F : Fl) (s : Int) (b : ByteArray) => F.put i j s b) F.burnt s b := by unfold Fl.changed; rw [if_neg c1]
    have hdc : decide (F.cnt = 1) = false := by simpa using c1
    rw [hdc] at HB
    rw [e1, e2, hbt]
    clear H0 hbt hc0 hm e1 e2 hdc c0 c1
    go_enter Tryz.func48, Tryz.ntmps48
    go_wp2_with (first
      | (go_at_call 75; refine (unhide HB).mono ?_; rintro e w1 ⟨rfl, hI1, hU1⟩; obtain ⟨p1, p2, p3⟩ := unhide HX w1 hU1; rw [unhide HC] at p1; have HP := hide (put_any hI1 cb i j hi hj p1 s b); have HI1 := hide hI1; have HU1 := hide hU1; clear hI1 hU1)
      | (go_at_call 54; refine (unhide HP).mono ?_; rintro e w2 ⟨rfl, hI2, hU2⟩))
    go_ret
    have s1 := (unhide HU1).size
    exact ⟨rfl, hI2, ((unhide HU0).trans ((unhide HU1).less hsz)).trans (hU2.less (by omega))⟩

set_option maxHeartbeats 1000000 in
theorem change_anew {g h cap : Nat} {F : Fl} {w : World} (H : IsFl w g h cap F) (hc0 : 0 ≤ F.cnt) (hm : F.cnt ≤ 9223372036854775807) (cb i : Nat) (hi : i < F.n) (hcb : w.cell? ⟨cb, 0, none⟩ = some (.pointer (some ⟨g, i * 33, none⟩))) (hcg : cb ≠ g) (hch : cb ≠ h) (s : Int) (b : ByteArray) :
    Calls Tryz.prog 48 #[P0 h, .agg #[.int .i64 s, .string b], .func (.func 49) #[] #[P0 cb]] w fun e w' => e = .returned (.int .i64 F.code) ∧ IsFl w' g h cap (F.changed (fun (F : Fl) (s : Int) (b : ByteArray) => F.anew i s b) s b) ∧ Upd (Two g h) w.heap.size w w' := by
  have hl := World.block_lt_of_cell? w _ hcb
  have hg := H.glt
  have hh := H.hlt
  have hbx := World.cell?_alloc_mark w #[Value.int .i64 s, .string b] 96 (0, 0) 0
  have hbx1 := World.cell?_alloc_mark w #[Value.int .i64 s, .string b] 96 (0, 0) 1
  have HX : Hid (∀ wr, Upd (Two g h) (w.alloc (.cells #[.int .i64 s, .string b] 96)).heap.size (w.alloc (.cells #[.int .i64 s, .string b] 96)) wr → wr.cell? ⟨cb, 0, none⟩ = w.cell? ⟨cb, 0, none⟩ ∧ wr.cell? ⟨w.heap.size, 0, none⟩ = some (.int .i64 s) ∧ wr.cell? ⟨w.heap.size, 1, none⟩ = some (.string b)) := by
    intro wr hu
    have hsz : (w.alloc (.cells #[.int .i64 s, .string b] 96)).heap.size = w.heap.size + 1 := by simp
    rw [hsz] at hu
    refine ⟨?_, ?_, ?_⟩
    · rw [hu.cell (p := ⟨cb, 0, none⟩) (Nat.lt_succ_of_lt hl) (by show ¬ (cb = g ∨ cb = h); omega), ((Below.refl _ _).alloc (Nat.le_refl _) _).cell (B := w.heap.size) (p := ⟨cb, 0, none⟩) hl]
    · rw [hu.cell (p := ⟨w.heap.size, 0, none⟩) (Nat.lt_succ_self _) (by show ¬ (w.heap.size = g ∨ w.heap.size = h); omega)]; exact hbx
    · rw [hu.cell (p := ⟨w.heap.size, 1, none⟩) (Nat.lt_succ_self _) (by show ¬ (w.heap.size = g ∨ w.heap.size = h); omega)]; exact hbx1
  have HC := hide hcb
  have H0 := H.alloc (.cells #[.int .i64 s, .string b] 96)
  have HU0 : Hid (Upd (Two g h) w.heap.size w (w.alloc (.cells #[.int .i64 s, .string b] 96))) := (Upd.refl _ _ _).alloc (Nat.le_refl _) _
  have hsz : w.heap.size ≤ (w.alloc (.cells #[.int .i64 s, .string b] 96)).heap.size := by simp
  clear H hbx hbx1 hcb
  by_cases c0 : F.cnt = 0
  · have HB := hide (burn_no H0 c0)
    have hbt : F.burnt = F := by unfold Fl.burnt; rw [if_pos c0]
    have e1 : F.code = 0 := by unfold Fl.code; rw [if_neg (by omega)]
    have e2 : F.changed (fun (F : Fl) (s : Int) (b : ByteArray) => F.anew i s b) s b = (fun (F : Fl) (s : Int) (b : ByteArray) => F.anew i s b) F s b := by unfold Fl.changed; rw [if_neg (by omega), hbt]
    rw [e1, e2]
    have HI := hide H0
    obtain ⟨p1, p2, p3⟩ := unhide HX _ (Upd.refl _ _ _)
    rw [unhide HC] at p1
    have HP := hide (anew_any (unhide HI) cb i hi p1 hcg hch s b)
    clear H0 hbt e1 e2 c0 hc0 hm
    go_enter Tryz.func48, Tryz.ntmps48
    go_wp2_with (first
      | (go_at_call 75; refine (unhide HB).mono ?_; rintro e w1 ⟨rfl, rfl⟩)
      | (go_at_call 49; refine (unhide HP).mono ?_; rintro e w2 ⟨rfl, hI2, hU2⟩))
    go_ret
    exact ⟨rfl, hI2, (unhide HU0).trans (hU2.less hsz)⟩
  have HB := hide (burn_yes H0 (by omega) hm)
  have hbt := burnt_of F c0
  by_cases c1 : F.cnt = 1
  · have e1 : F.code = 7 := by unfold Fl.code; rw [if_pos c1]
    have hdc : decide (F.cnt = 1) = true := by simpa using c1
    rw [hdc] at HB
    have HBT := hide hbt
    have C1 := hide c1
    rw [e1]
    clear H0 hbt hc0 hm e1 hdc c0 c1
    by_cases k2 : F.keep = 2
    · have e2 : F.changed (fun (F : Fl) (s : Int) (b : ByteArray) => F.anew i s b) s b = ((fun (F : Fl) (s : Int) (b : ByteArray) => F.anew i s b) F.burnt s b).fall := by unfold Fl.changed; rw [if_pos (unhide C1), if_pos k2]
      rw [e2, unhide HBT]
      rw [k2] at HB
      clear e2 k2
      go_enter Tryz.func48, Tryz.ntmps48
      go_wp2_with (first
        | (go_at_call 75; refine (unhide HB).mono ?_; rintro e w1 ⟨rfl, hI1, hU1⟩; obtain ⟨p1, p2, p3⟩ := unhide HX w1 hU1; rw [unhide HC] at p1; have HP := hide (anew_any hI1 cb i hi p1 hcg hch s b); have HI1 := hide hI1; have HU1 := hide hU1; clear hI1 hU1)
        | (go_at_call 49; refine (unhide HP).mono ?_; rintro e w2 ⟨rfl, hI2, hU2⟩; have HF := hide (fall_any hI2); have HU2 := hide hU2; clear hI2 hU2)
        | (go_at_call 46; refine (unhide HF).mono ?_; rintro e w3 ⟨rfl, hI3, hU3⟩))
      go_ret
      have s1 := (unhide HU1).size
      have s2 := (unhide HU2).size
      exact ⟨rfl, hI3, (((unhide HU0).trans ((unhide HU1).less hsz)).trans ((unhide HU2).less (by omega))).trans (hU3.less (by omega))⟩
    · by_cases k1 : F.keep = 1
      · have e2 : F.changed (fun (F : Fl) (s : Int) (b : ByteArray) => F.anew i s b) s b = ((fun (F : Fl) (s : Int) (b : ByteArray) => F.anew i s b) F.burnt 1 ⟨#[]⟩).fall := by unfold Fl.changed; rw [if_pos (unhide C1), if_neg k2, if_pos k1]
        rw [e2, unhide HBT]
        rw [k1] at HB
        clear e2 k2 k1
        go_enter Tryz.func48, Tryz.ntmps48
        go_wp2_with (first
          | (go_at_call 75; refine (unhide HB).mono ?_; rintro e w1 ⟨rfl, hI1, hU1⟩; obtain ⟨p1, p2, p3⟩ := unhide HX w1 hU1; rw [unhide HC] at p1; have HP := hide (anew_any hI1 cb i hi p1 hcg hch 1 ⟨#[]⟩); have HI1 := hide hI1; have HU1 := hide hU1; clear hI1 hU1)
          | (go_at_call 49; refine (unhide HP).mono ?_; rintro e w2 ⟨rfl, hI2, hU2⟩; have HF := hide (fall_any hI2); have HU2 := hide hU2; clear hI2 hU2)
          | (go_at_call 46; refine (unhide HF).mono ?_; rintro e w3 ⟨rfl, hI3, hU3⟩))
        go_ret
        have s1 := (unhide HU1).size
        have s2 := (unhide HU2).size
        exact ⟨rfl, hI3, (((unhide HU0).trans ((unhide HU1).less hsz)).trans ((unhide HU2).less (by omega))).trans (hU3.less (by omega))⟩
      · have e2 : F.changed (fun (F : Fl) (s : Int) (b : ByteArray) => F.anew i s b) s b = F.burnt.fall := by unfold Fl.changed; rw [if_pos (unhide C1), if_neg k2, if_neg k1]
        rw [e2, unhide HBT]
        clear e2
        go_enter Tryz.func48, Tryz.ntmps48
        go_wp2_with (first
          | (go_at_call 75; refine (unhide HB).mono ?_; rintro e w1 ⟨rfl, hI1, hU1⟩; obtain ⟨p1, p2, p3⟩ := unhide HX w1 hU1; have HF := hide (fall_any hI1); have HU1 := hide hU1; clear hI1 hU1)
          | (go_at_call 46; refine (unhide HF).mono ?_; rintro e w3 ⟨rfl, hI3, hU3⟩))
        go_ret
        have s1 := (unhide HU1).size
        exact ⟨rfl, hI3, ((unhide HU0).trans ((unhide HU1).less hsz)).trans (hU3.less (by omega))⟩
  · have e1 : F.code = 0 := by unfold Fl.code; rw [if_neg c1]
    have e2 : F.changed (fun (F : Fl) (s : Int) (b : ByteArray) => F.anew i s b) s b = (fun (F : Fl) (s : Int) (b : ByteArray) => F.anew i s b) F.burnt s b := by unfold Fl.changed; rw [if_neg c1]
    have hdc : decide (F.cnt = 1) = false := by simpa using c1
    rw [hdc] at HB
    rw [e1, e2, hbt]
    clear H0 hbt hc0 hm e1 e2 hdc c0 c1
    go_enter Tryz.func48, Tryz.ntmps48
    go_wp2_with (first
      | (go_at_call 75; refine (unhide HB).mono ?_; rintro e w1 ⟨rfl, hI1, hU1⟩; obtain ⟨p1, p2, p3⟩ := unhide HX w1 hU1; rw [unhide HC] at p1; have HP := hide (anew_any hI1 cb i hi p1 hcg hch s b); have HI1 := hide hI1; have HU1 := hide hU1; clear hI1 hU1)
      | (go_at_call 49; refine (unhide HP).mono ?_; rintro e w2 ⟨rfl, hI2, hU2⟩))
    go_ret
    have s1 := (unhide HU1).size
    exact ⟨rfl, hI2, ((unhide HU0).trans ((unhide HU1).less hsz)).trans (hU2.less (by omega))⟩

end Go.Proofs.YtiijbklaapaheaaGreat

/- Contracts of Program, Read, Erase, SetFuse, Crash, Restart, Down. -/
namespace Go.Proofs.YtiijbklaapaheaaGreat
open Go.RowKit
set_option maxRecDepth 100000

def bytesOf (s : ByteArray) : List Int := s.data.toList.map fun b => (b.toNat : Int)
theorem bytesOf_byt (s : ByteArray) : Byt (bytesOf s) := by
  intro b hb
  simp only [bytesOf, List.mem_map] at hb
  obtain ⟨x, _, rfl⟩ := hb
  have := x.toNat_lt
  omega
theorem bytesOf_length (s : ByteArray) : (bytesOf s).length = s.size := by unfold bytesOf; rw [List.length_map]; rfl
theorem bytesOf_strOf {zs : List Int} (h : Byt zs) : bytesOf (strOf zs) = zs := by
  simp only [bytesOf, strOf, List.map_map]
  conv => rhs; rw [← List.map_id zs]
  refine List.map_congr_left fun x hx => ?_
  have := h x hx
  simp
  omega

/-- Bytes in a block of the call's own. -/
def Own8 (B : Nat) (w : World) (x : Value) (ys : List Int) : Prop :=
  ∃ g cap, x = .slice (some ⟨g, 0, none⟩) ys.length cap ∧ ys.length ≤ cap ∧ B ≤ g ∧ (∀ t, t < ys.length → w.cell? ⟨g, t, none⟩ = some (.int .u8 (ys.getD t 0))) ∧ ∀ t, t < ys.length → w.frozen? ⟨g, t, none⟩ = false

theorem Own8.sees {B : Nat} {w : World} {x : Value} {ys : List Int} (h : Own8 B w x ys) : Sees w .u8 x ys := by
  obtain ⟨g, cap, rfl, h1, _, h2, _⟩ := h
  refine ⟨_, cap, rfl, h1, (fun e => by cases e), fun a e t ht => ?_⟩
  obtain rfl := Option.some.inj e
  have hadd : (⟨g, 0, none⟩ : Addr).add t = ⟨g, t, none⟩ := by unfold Addr.add; split <;> simp_all
  rw [hadd]; exact h2 t ht

theorem own8_new (w : World) (s : ByteArray) (cap : Nat) (hc : s.size ≤ cap) (hz : (bytesRow s cap).size = cap) : Own8 w.heap.size (w.drew.alloc (.cells (bytesRow s cap) 5 ((bytesRow s cap).size, (bytesRow s cap).size + 1))) (.slice (some ⟨w.heap.size, 0, none⟩) s.size cap) (bytesOf s) := by
  have hl := bytesOf_length s
  refine ⟨w.heap.size, cap, by rw [hl], by omega, Nat.le_refl _, fun t ht => ?_, fun t ht => ?_⟩
  · have := World.cell?_alloc_mark w.drew (bytesRow s cap) 5 ((bytesRow s cap).size, (bytesRow s cap).size + 1) t
    refine this.trans ?_
    have ht' : t < s.data.size := by rw [hl] at ht; exact ht
    rw [bytesRow_at s cap t ht']
    unfold bytesOf
    rw [List.getD_eq_getElem?_getD, List.getElem?_map, Array.getElem?_toList, Array.getElem?_eq_getElem ht']
    rfl
  · have := World.frozen?_alloc_mark w.drew (bytesRow s cap) 5 (bytesRow s cap).size ((bytesRow s cap).size + 1) t
    refine this.trans ?_
    rw [hz]
    simp
    omega

theorem row_size (s : ByteArray) (cap : Nat) (h : s.size ≤ cap) : (bytesRow s cap).size = cap := by
  unfold bytesRow
  rw [Array.size_append, Array.size_map, Array.size_replicate]
  have : s.data.size = s.size := rfl
  omega

set_option maxHeartbeats 400000 in
theorem read_ok {g h cap : Nat} {F : Fl} {w : World} (H : IsFl w g h cap F) (hd : F.down = false) (i j : Nat) (hi : i < F.n) (hj : j < 16) (hs : F.st i j = 2) :
    Calls Tryz.prog 31 #[P0 h, .int .i64 i, .int .i64 j] w fun e w' => ∃ x, e = .returned (.tuple #[x, .int .i64 0]) ∧ Own8 w.heap.size w' x (bytesOf (F.bs i j)) ∧ Below w.heap.size w w' := by
  have HF := hide (find_yes H hd i j hi hj)
  have h1 := H.st i j hi hj; rw [hs] at h1
  have h2 := H.bs i j hi hj
  have hv := run_bytes_of_string (P := Tryz.prog) w 9 33 5 (F.bs i j) Tryz.underlying9 Tryz.underlying33 Tryz.underlying5
  clear H hs
  go_enter Tryz.func31, Tryz.ntmps31
  go_wp2_with (first
    | (go_at_call 47; refine (unhide HF).mono ?_; rintro e w' ⟨rfl, rfl⟩))
  go_ret2
  have hge := grownCap_ge w (F.bs i j).size 0 5
  exact ⟨_, rfl, own8_new w (F.bs i j) _ hge (row_size _ _ hge), ((Below.refl _ _).alloc (Nat.le_refl _) _).drew⟩

set_option maxHeartbeats 400000 in
theorem read_not {g h cap : Nat} {F : Fl} {w : World} (H : IsFl w g h cap F) (hd : F.down = false) (i j : Nat) (hi : i < F.n) (hj : j < 16) (hs : F.st i j ≠ 2) :
    Calls Tryz.prog 31 #[P0 h, .int .i64 i, .int .i64 j] w fun e w' => e = .returned (.tuple #[.slice none 0 0, .int .i64 (if F.st i j = 1 then 22 else 21)]) ∧ w = w' := by
  have HF := hide (find_yes H hd i j hi hj)
  have h1 := H.st i j hi hj
  have HM := hide (missing_any g (i * 33 + j * 2) (F.st i j) w h1)
  obtain ⟨er, her⟩ : ∃ er : Int, (if F.st i j = 1 then 22 else 21) = er := ⟨_, rfl⟩
  rw [her] at HM ⊢
  clear H her
  go_enter Tryz.func31, Tryz.ntmps31
  go_wp2_with (first
    | (go_at_call 47; refine (unhide HF).mono ?_; rintro e w' ⟨rfl, rfl⟩)
    | (go_at_call 56; refine (unhide HM).mono ?_; rintro e w' ⟨rfl, rfl⟩))
  go_ret2
  exact ⟨rfl, rfl⟩

set_option maxHeartbeats 400000 in
/-- Where 'find' answers an error, so do Read, Program, Erase. -/
theorem read_err {v : Value} {i j er : Int} {w : World} (he : er ≠ 0) (HF : Calls Tryz.prog 47 #[v, .int .i64 i, .int .i64 j] w fun e w' => e = .returned (.tuple #[.pointer none, .int .i64 er]) ∧ w = w') :
    Calls Tryz.prog 31 #[v, .int .i64 i, .int .i64 j] w fun e w' => e = .returned (.tuple #[.slice none 0 0, .int .i64 er]) ∧ w = w' := by
  have HF := hide HF
  go_enter Tryz.func31, Tryz.ntmps31
  go_wp2_with (first
    | (go_at_call 47; refine (unhide HF).mono ?_; rintro e w' ⟨rfl, rfl⟩))
  go_ret2
  exact ⟨rfl, rfl⟩

set_option maxHeartbeats 400000 in
theorem prog_err {v bv : Value} {i j er : Int} {w : World} (he : er ≠ 0) (HF : Calls Tryz.prog 47 #[v, .int .i64 i, .int .i64 j] w fun e w' => e = .returned (.tuple #[.pointer none, .int .i64 er]) ∧ w = w') :
    Calls Tryz.prog 25 #[v, .int .i64 i, .int .i64 j, bv] w fun e w' => e = .returned (.int .i64 er) ∧ Below w.heap.size w w' := by
  have HF := hide HF
  go_enter Tryz.func25, Tryz.ntmps25
  go_wp2_with (first
    | (go_at_call 47; refine (unhide HF).mono ?_; rintro e w' ⟨rfl, rfl⟩))
  go_ret
  exact ⟨rfl, (Below.refl _ _).alloc (Nat.le_refl _) _⟩

set_option maxHeartbeats 400000 in
theorem erase_err {v : Value} {i er : Int} {w : World} (he : er ≠ 0) (HF : Calls Tryz.prog 47 #[v, .int .i64 i, .int .i64 0] w fun e w' => e = .returned (.tuple #[.pointer none, .int .i64 er]) ∧ w = w') :
    Calls Tryz.prog 23 #[v, .int .i64 i] w fun e w' => e = .returned (.int .i64 er) ∧ w = w' := by
  have HF := hide HF
  go_enter Tryz.func23, Tryz.ntmps23
  go_wp2_with (first
    | (go_at_call 47; refine (unhide HF).mono ?_; rintro e w' ⟨rfl, rfl⟩))
  go_ret
  exact ⟨rfl, rfl⟩

set_option maxHeartbeats 400000 in
theorem prog_long {g h cap : Nat} {F : Fl} {w : World} (H : IsFl w g h cap F) (hd : F.down = false) (i j : Nat) (hi : i < F.n) (hj : j < 16) (ao : Option Addr) (n c : Nat) (hl : 256 < n) :
    Calls Tryz.prog 25 #[P0 h, .int .i64 i, .int .i64 j, .slice ao n c] w fun e w' => e = .returned (.int .i64 1) ∧ Below w.heap.size w w' := by
  have HF := hide (find_yes H hd i j hi hj)
  clear H
  go_enter Tryz.func25, Tryz.ntmps25
  go_wp2_with (first
    | (go_at_call 47; refine (unhide HF).mono ?_; rintro e w' ⟨rfl, rfl⟩))
  go_ret
  exact ⟨rfl, (Below.refl _ _).alloc (Nat.le_refl _) _⟩

set_option maxHeartbeats 400000 in
theorem prog_used {g h cap : Nat} {F : Fl} {w : World} (H : IsFl w g h cap F) (hd : F.down = false) (i j : Nat) (hi : i < F.n) (hj : j < 16) (ao : Option Addr) (n c : Nat) (hl : n ≤ 256) (hs : F.st i j ≠ 0) :
    Calls Tryz.prog 25 #[P0 h, .int .i64 i, .int .i64 j, .slice ao n c] w fun e w' => e = .returned (.int .i64 20) ∧ Below w.heap.size w w' := by
  have HF := hide (find_yes H hd i j hi hj)
  have h1 := H.st i j hi hj
  have hg := H.glt
  clear H
  go_enter Tryz.func25, Tryz.ntmps25
  go_wp2_with (first
    | (go_at_call 47; refine (unhide HF).mono ?_; rintro e w' ⟨rfl, rfl⟩))
  go_ret
  exact ⟨rfl, (Below.refl _ _).alloc (Nat.le_refl _) _⟩

abbrev putA (i j : Nat) : Fl → Int → ByteArray → Fl := fun (F : Fl) (s : Int) (b : ByteArray) => F.put i j s b
abbrev anewA (i : Nat) : Fl → Int → ByteArray → Fl := fun (F : Fl) (s : Int) (b : ByteArray) => F.anew i s b

set_option maxHeartbeats 800000 in
theorem prog_ok {g h cap : Nat} {F : Fl} {w : World} (H : IsFl w g h cap F) (hc0 : 0 ≤ F.cnt) (hm : F.cnt ≤ 9223372036854775807) (hd : F.down = false) (i j : Nat) (hi : i < F.n) (hj : j < 16) (bv : Value) (zs : List Int) (hz : Sees w .u8 bv zs) (hby : Byt zs) (hl : zs.length ≤ 256) (hs : F.st i j = 0) :
    Calls Tryz.prog 25 #[P0 h, .int .i64 i, .int .i64 j, bv] w fun e w' => e = .returned (.int .i64 F.code) ∧ IsFl w' g h cap (F.changed (putA i j) 2 (strOf (pageL zs))) ∧ Upd (Two g h) w.heap.size w w' := by
  have HF := hide (find_yes H hd i j hi hj)
  have h1 := H.st i j hi hj; rw [hs] at h1
  have hg := H.glt
  have hh := H.hlt
  have HH := hide H
  have hsz : w.heap.size ≤ (w.alloc (.cells #[.pointer (some ⟨g, i * 33 + j * 2, none⟩)] 91)).heap.size := by simp
  have HFL := hide (filled_any bv zs _ (hz.below ((Below.refl _ _).alloc (Nat.le_refl _) (.cells #[.pointer (some ⟨g, i * 33 + j * 2, none⟩)] 91))) hby hl)
  have HC : Hid (∀ w1, Below (w.alloc (.cells #[.pointer (some ⟨g, i * 33 + j * 2, none⟩)] 91)).heap.size (w.alloc (.cells #[.pointer (some ⟨g, i * 33 + j * 2, none⟩)] 91)) w1 →
      Calls Tryz.prog 48 #[P0 h, .agg #[.int .i64 2, .string (strOf (pageL zs))], .func (.func 54) #[] #[P0 w.heap.size]] w1 fun e w' => e = .returned (.int .i64 F.code) ∧ IsFl w' g h cap (F.changed (putA i j) 2 (strOf (pageL zs))) ∧ Upd (Two g h) w.heap.size w w') := by
    intro w1 hb
    have hI : IsFl w1 g h cap F := (H.alloc _).below hb
    have hcb : w1.cell? ⟨w.heap.size, 0, none⟩ = some (.pointer (some ⟨g, i * 33 + j * 2, none⟩)) := (hb.cell (p := ⟨w.heap.size, 0, none⟩) (by simp)).trans (World.cell?_alloc_mark w #[.pointer (some ⟨g, i * 33 + j * 2, none⟩)] 91 (0, 0) 0)
    refine (change_put hI hc0 hm w.heap.size i j hi hj hcb (by omega) (by omega) 2 (strOf (pageL zs))).mono ?_
    rintro e w' ⟨rfl, a, b⟩
    have hs1 := hb.size
    exact ⟨rfl, a, (((Upd.refl _ _ _).alloc (Nat.le_refl _) _).trans (Upd.of (hb.mono hsz))).trans (b.less (by omega))⟩
  obtain ⟨ao, cp, rfl, _⟩ := hz
  clear H hs
  go_enter Tryz.func25, Tryz.ntmps25
  go_wp2_with (first
    | (go_at_call 47; refine (unhide HF).mono ?_; rintro e w' ⟨rfl, rfl⟩)
    | (go_at_call 53; refine (unhide HFL).mono ?_; rintro e w1 ⟨rfl, hb1⟩; have HC1 := hide (unhide HC w1 hb1); clear hb1)
    | (go_at_call 48; refine (unhide HC1).mono ?_; rintro e w2 ⟨rfl, hI2, hU2⟩))
  go_ret
  exact ⟨rfl, hI2, hU2⟩

set_option maxHeartbeats 800000 in
theorem erase_ok {g h cap : Nat} {F : Fl} {w : World} (H : IsFl w g h cap F) (hc0 : 0 ≤ F.cnt) (hm : F.cnt ≤ 9223372036854775807) (hd : F.down = false) (i : Nat) (hi : i < F.n) :
    Calls Tryz.prog 23 #[P0 h, .int .i64 i] w fun e w' => e = .returned (.int .i64 F.code) ∧ IsFl w' g h cap (F.changed (anewA i) 0 ⟨#[]⟩) ∧ Upd (Two g h) w.heap.size w w' := by
  have HF := hide (find_yes H hd i 0 hi (by omega))
  have h1 := H.ptr; have h2 := H.fit
  have hg := H.glt
  have hh := H.hlt
  have HC : Hid (Calls Tryz.prog 48 #[P0 h, .agg #[.int .i64 0, .string ⟨#[]⟩], .func (.func 49) #[] #[P0 w.heap.size]] (w.alloc (.cells #[.pointer (some ⟨g, i * 33, none⟩)] 94)) fun e w' => e = .returned (.int .i64 F.code) ∧ IsFl w' g h cap (F.changed (anewA i) 0 ⟨#[]⟩) ∧ Upd (Two g h) w.heap.size w w') := by
    have hcb := World.cell?_alloc_mark w #[.pointer (some ⟨g, i * 33, none⟩)] 94 (0, 0) 0
    refine (change_anew (H.alloc (.cells #[.pointer (some ⟨g, i * 33, none⟩)] 94)) hc0 hm w.heap.size i hi hcb (by omega) (by omega) 0 ⟨#[]⟩).mono ?_
    rintro e w' ⟨rfl, a, b⟩
    exact ⟨rfl, a, ((Upd.refl _ _ _).alloc (Nat.le_refl _) _).trans (b.less (by simp))⟩
  clear H
  go_enter Tryz.func23, Tryz.ntmps23
  go_wp2_with (first
    | (go_at_call 47; refine (unhide HF).mono ?_; rintro e w' ⟨rfl, rfl⟩)
    | (go_at_call 48; refine (unhide HC).mono ?_; rintro e w2 ⟨rfl, hI2, hU2⟩))
  go_ret
  exact ⟨rfl, hI2, hU2⟩

end Go.Proofs.YtiijbklaapaheaaGreat

/- Contracts of SetFuse, Crash, Restart, Down, Blocks, Wear, New. -/
namespace Go.Proofs.YtiijbklaapaheaaGreat
open Go.RowKit
set_option maxRecDepth 100000

theorem keep_mod (k : Int) : (wrap64 (k.tmod 3 + 3)).tmod 3 = k % 3 := by
  have a : k.tmod 3 = k % 3 ∨ k.tmod 3 = k % 3 - 3 := by
    rcases Int.le_total 0 k with h | h
    · left; exact Int.tmod_eq_emod_of_nonneg h
    · have e : k.tmod 3 = -((-k) % 3) := by
        have := Int.neg_tmod (-k) 3
        rw [Int.neg_neg] at this
        rw [this, Int.tmod_eq_emod_of_nonneg (by omega)]
      omega
  have hw : wrap64 (k.tmod 3 + 3) = k.tmod 3 + 3 := by unfold wrap64; omega
  rw [hw, Int.tmod_eq_emod_of_nonneg (by omega)]
  omega

set_option maxHeartbeats 400000 in
theorem fuse_ok {g h cap : Nat} {F : Fl} {w : World} (H : IsFl w g h cap F) (hd : F.down = false) (c k : Int) (hc : 1 ≤ c) :
    Calls Tryz.prog 17 #[P0 h, .int .i64 c, .int .i64 k] w fun e w' => e = .returned (.int .i64 0) ∧ IsFl w' g h cap { F with cnt := c, keep := k % 3 } ∧ Upd (Two g h) w.heap.size w w' := by
  have HR := hide (ready_up H hd)
  have h1 := H.cnt; have h2 := H.keep; have hf := H.frH
  have HI := hide ((H.setCnt c).setKeep (k % 3))
  clear H
  go_enter Tryz.func17, Tryz.ntmps17
  go_wp2_with (go_at_call 45; refine (unhide HR).mono ?_; rintro e w' ⟨rfl, rfl⟩)
  go_ret
  rw [keep_mod]
  exact ⟨rfl, unhide HI, ((Upd.refl _ _ _).setCell (Or.inl (Or.inr rfl)) _).setCell (Or.inl (Or.inr rfl)) _⟩

set_option maxHeartbeats 400000 in
theorem fuse_arg {g h cap : Nat} {F : Fl} {w : World} (H : IsFl w g h cap F) (hd : F.down = false) (c k : Int) (hc : c < 1) :
    Calls Tryz.prog 17 #[P0 h, .int .i64 c, .int .i64 k] w fun e w' => e = .returned (.int .i64 1) ∧ w = w' := by
  have HR := hide (ready_up H hd)
  clear H
  go_enter Tryz.func17, Tryz.ntmps17
  go_wp2_with (go_at_call 45; refine (unhide HR).mono ?_; rintro e w' ⟨rfl, rfl⟩)
  go_ret
  exact ⟨rfl, rfl⟩

set_option maxHeartbeats 400000 in
theorem fuse_err {v : Value} {er : Int} {w : World} (he : er ≠ 0) (HR : Calls Tryz.prog 45 #[v] w fun e w' => e = .returned (.int .i64 er) ∧ w = w') (c k : Int) :
    Calls Tryz.prog 17 #[v, .int .i64 c, .int .i64 k] w fun e w' => e = .returned (.int .i64 er) ∧ w = w' := by
  have HR := hide HR
  go_enter Tryz.func17, Tryz.ntmps17
  go_wp2_with (go_at_call 45; refine (unhide HR).mono ?_; rintro e w' ⟨rfl, rfl⟩)
  go_ret
  exact ⟨rfl, rfl⟩

set_option maxHeartbeats 400000 in
theorem restart_ok {g h cap : Nat} {F : Fl} {w : World} (H : IsFl w g h cap F) (hd : F.down = true) :
    Calls Tryz.prog 21 #[P0 h] w fun e w' => e = .returned (.int .i64 0) ∧ IsFl w' g h cap { F with down := false } ∧ Upd (Two g h) w.heap.size w w' := by
  have HM := hide (made_yes H)
  have h1 := H.down; rw [hd] at h1
  have hf := H.frH
  have HI := hide (H.setDown false)
  clear H hd
  go_enter Tryz.func21, Tryz.ntmps21
  go_wp2_with (go_at_call 29; refine (unhide HM).mono ?_; rintro e w' ⟨rfl, rfl⟩)
  go_ret
  exact ⟨rfl, unhide HI, (Upd.refl _ _ _).setCell (Or.inl (Or.inr rfl)) _⟩

set_option maxHeartbeats 400000 in
theorem restart_up {g h cap : Nat} {F : Fl} {w : World} (H : IsFl w g h cap F) (hd : F.down = false) :
    Calls Tryz.prog 21 #[P0 h] w fun e w' => e = .returned (.int .i64 1) ∧ w = w' := by
  have HM := hide (made_yes H)
  have h1 := H.down; rw [hd] at h1
  clear H hd
  go_enter Tryz.func21, Tryz.ntmps21
  go_wp2_with (go_at_call 29; refine (unhide HM).mono ?_; rintro e w' ⟨rfl, rfl⟩)
  go_ret
  exact ⟨rfl, rfl⟩

set_option maxHeartbeats 400000 in
theorem restart_no {v : Value} {w : World} (H : IsNo w v) :
    Calls Tryz.prog 21 #[v] w fun e w' => e = .returned (.int .i64 2) ∧ w = w' := by
  have HM := hide (made_no H)
  clear H
  go_enter Tryz.func21, Tryz.ntmps21
  go_wp2_with (go_at_call 29; refine (unhide HM).mono ?_; rintro e w' ⟨rfl, rfl⟩)
  go_ret
  exact ⟨rfl, rfl⟩

set_option maxHeartbeats 400000 in
theorem down_any {g h cap : Nat} {F : Fl} {w : World} (H : IsFl w g h cap F) :
    Calls Tryz.prog 8 #[P0 h] w fun e w' => e = .returned (.bool F.down) ∧ w = w' := by
  have HM := hide (made_yes H)
  have h1 := H.down
  clear H
  go_enter Tryz.func8, Tryz.ntmps8
  go_wp2_with (go_at_call 29; refine (unhide HM).mono ?_; rintro e w' ⟨rfl, rfl⟩)
  go_ret
  exact ⟨ret_bool (by simp), rfl⟩

set_option maxHeartbeats 400000 in
theorem down_no {v : Value} {w : World} (H : IsNo w v) :
    Calls Tryz.prog 8 #[v] w fun e w' => e = .returned (.bool false) ∧ w = w' := by
  have HM := hide (made_no H)
  clear H
  go_enter Tryz.func8, Tryz.ntmps8
  go_wp2_with (go_at_call 29; refine (unhide HM).mono ?_; rintro e w' ⟨rfl, rfl⟩)
  go_ret
  exact ⟨rfl, rfl⟩

set_option maxHeartbeats 400000 in
theorem blocks_any {g h cap : Nat} {F : Fl} {w : World} (H : IsFl w g h cap F) :
    Calls Tryz.prog 60 #[P0 h] w fun e w' => e = .returned (.int .i64 F.n) ∧ w = w' := by
  have HM := hide (made_yes H)
  have h1 := H.ptr
  clear H
  go_enter Tryz.func60, Tryz.ntmps60
  go_wp2_with (go_at_call 29; refine (unhide HM).mono ?_; rintro e w' ⟨rfl, rfl⟩)
  go_ret
  exact ⟨rfl, rfl⟩

set_option maxHeartbeats 400000 in
theorem blocks_no {v : Value} {w : World} (H : IsNo w v) :
    Calls Tryz.prog 60 #[v] w fun e w' => e = .returned (.int .i64 0) ∧ w = w' := by
  have HM := hide (made_no H)
  clear H
  go_enter Tryz.func60, Tryz.ntmps60
  go_wp2_with (go_at_call 29; refine (unhide HM).mono ?_; rintro e w' ⟨rfl, rfl⟩)
  go_ret
  exact ⟨rfl, rfl⟩

set_option maxHeartbeats 400000 in
theorem wear_any {g h cap : Nat} {F : Fl} {w : World} (H : IsFl w g h cap F) (i : Nat) (hi : i < F.n) :
    Calls Tryz.prog 30 #[P0 h, .int .i64 i] w fun e w' => e = .returned (.int .i64 (F.wear i)) ∧ w = w' := by
  have HS := hide (has_yes H i)
  have hb : (decide (0 ≤ (i : Int)) && decide ((i : Int) < F.n)) = true := by simp; omega
  rw [hb] at HS
  have h1 := H.ptr; have h2 := H.wear i hi; have h3 := H.fit
  clear H hb
  go_enter Tryz.func30, Tryz.ntmps30
  go_wp2_with (go_at_call 58; refine (unhide HS).mono ?_; rintro e w' ⟨rfl, rfl⟩)
  go_ret
  exact ⟨rfl, rfl⟩

set_option maxHeartbeats 400000 in
theorem wear_out {g h cap : Nat} {F : Fl} {w : World} (H : IsFl w g h cap F) (i : Int) (hi : ¬ (0 ≤ i ∧ i < F.n)) :
    Calls Tryz.prog 30 #[P0 h, .int .i64 i] w fun e w' => e = .returned (.int .i64 0) ∧ w = w' := by
  have HS := hide (has_yes H i)
  have hb : (decide (0 ≤ i) && decide (i < F.n)) = false := by simp; omega
  rw [hb] at HS
  clear H hb
  go_enter Tryz.func30, Tryz.ntmps30
  go_wp2_with (go_at_call 58; refine (unhide HS).mono ?_; rintro e w' ⟨rfl, rfl⟩)
  go_ret
  exact ⟨rfl, rfl⟩

set_option maxHeartbeats 400000 in
theorem wear_no {v : Value} {w : World} (H : IsNo w v) (i : Int) :
    Calls Tryz.prog 30 #[v, .int .i64 i] w fun e w' => e = .returned (.int .i64 0) ∧ w = w' := by
  have HS := hide (has_no H i)
  clear H
  go_enter Tryz.func30, Tryz.ntmps30
  go_wp2_with (go_at_call 58; refine (unhide HS).mono ?_; rintro e w' ⟨rfl, rfl⟩)
  go_ret
  exact ⟨rfl, rfl⟩

def zCells : Array Value := #[.int .i64 0, .string ⟨#[]⟩, .int .i64 0, .string ⟨#[]⟩, .int .i64 0, .string ⟨#[]⟩, .int .i64 0, .string ⟨#[]⟩, .int .i64 0, .string ⟨#[]⟩, .int .i64 0, .string ⟨#[]⟩, .int .i64 0, .string ⟨#[]⟩, .int .i64 0, .string ⟨#[]⟩, .int .i64 0, .string ⟨#[]⟩, .int .i64 0, .string ⟨#[]⟩, .int .i64 0, .string ⟨#[]⟩, .int .i64 0, .string ⟨#[]⟩, .int .i64 0, .string ⟨#[]⟩, .int .i64 0, .string ⟨#[]⟩, .int .i64 0, .string ⟨#[]⟩, .int .i64 0, .string ⟨#[]⟩, .int .i64 0]
theorem Tryz.info99 : (Tryz.prog.info? 99).map (fun i => (i.zero, i.size, i.bytes)) = some (some (.agg zCells), 33, 392) := by kernel_rfl

theorem z_st (j : Nat) (hj : j < 16) : zCells[j * 2]! = .int .i64 0 ∧ zCells[j * 2 + 1]! = .string ⟨#[]⟩ := by
  match j, hj with
  | 0, _ => exact ⟨rfl, rfl⟩
  | 1, _ => exact ⟨rfl, rfl⟩
  | 2, _ => exact ⟨rfl, rfl⟩
  | 3, _ => exact ⟨rfl, rfl⟩
  | 4, _ => exact ⟨rfl, rfl⟩
  | 5, _ => exact ⟨rfl, rfl⟩
  | 6, _ => exact ⟨rfl, rfl⟩
  | 7, _ => exact ⟨rfl, rfl⟩
  | 8, _ => exact ⟨rfl, rfl⟩
  | 9, _ => exact ⟨rfl, rfl⟩
  | 10, _ => exact ⟨rfl, rfl⟩
  | 11, _ => exact ⟨rfl, rfl⟩
  | 12, _ => exact ⟨rfl, rfl⟩
  | 13, _ => exact ⟨rfl, rfl⟩
  | 14, _ => exact ⟨rfl, rfl⟩
  | 15, _ => exact ⟨rfl, rfl⟩
  | k + 16, h => omega

theorem made_at (n t : Nat) (ht : t < n * 33) : (madeCells zCells (n * 33)).toList[t]? = some (zCells[t % 33]!) := by
  unfold madeCells
  rw [Array.getElem?_toList, Array.getElem?_map, Array.getElem?_range, if_pos ht]
  rfl

/-- A new flash. -/
def Fl.blank (n : Nat) : Fl := { n := n, st := fun _ _ => 0, bs := fun _ _ => ⟨#[]⟩, wear := fun _ => 0, cnt := 0, keep := 0, down := false }

/-- A flash over a row of its own and a new struct. -/
theorem isFl_of_own {w1 : World} {B g cap : Nat} {F : Fl} {xs : List Value} (hp : 0 < F.n) (hle : F.n ≤ 1024) (ho : w1.ownsRow B 99 33 (.slice (some ⟨g, 0, none⟩) F.n cap) F.n xs)
    (c1 : ∀ i j, i < F.n → j < 16 → xs[i * 33 + j * 2]? = some (.int .i64 (F.st i j))) (c2 : ∀ i j, i < F.n → j < 16 → xs[i * 33 + j * 2 + 1]? = some (.string (F.bs i j))) (c3 : ∀ i, i < F.n → xs[i * 33 + 32]? = some (.int .i64 (F.wear i))) :
    IsFl (w1.alloc (.cells #[.slice (some ⟨g, 0, none⟩) F.n cap, .int .i64 F.cnt, .int .i64 F.keep, .bool F.down] 49)) g w1.heap.size cap F ∧ B ≤ g := by
  have ho' := ho
  rcases ho'.2 with ⟨hv, _⟩ | ⟨g', cap', cur, hv, hB, hh, hcap, _⟩
  · cases hv
  simp only [Value.slice.injEq, Option.some.injEq, Addr.mk.injEq, and_true, true_and] at hv
  obtain ⟨rfl, rfl⟩ := hv
  have hlt : g < w1.heap.size := (Array.getElem?_eq_some_iff.1 hh).1
  have hne : g ≠ w1.heap.size := by omega
  have cell : ∀ t v, xs[t]? = some v → (w1.alloc (.cells #[.slice (some ⟨g, 0, none⟩) F.n cap, .int .i64 F.cnt, .int .i64 F.keep, .bool F.down] 49)).cell? ⟨g, t, none⟩ = some v := fun t v h => by
    have := ho.cells (g := g) rfl t v h
    have hadd : (⟨g, 0, none⟩ : Addr).add t = ⟨g, t, none⟩ := by unfold Addr.add; split <;> simp_all
    rw [hadd] at this
    exact (World.cell?_alloc_old w1 _ ⟨g, t, none⟩ hne).trans this
  refine ⟨⟨hne, hp, hle, hcap, ?_, ?_, ?_, ?_, fun o => ?_, fun i j hi hj => cell _ _ (c1 i j hi hj), fun i j hi hj => cell _ _ (c2 i j hi hj), fun i hi => cell _ _ (c3 i hi), fun o => ?_⟩, hB⟩
  · exact World.cell?_alloc_mark w1 _ 49 (0, 0) 0
  · exact World.cell?_alloc_mark w1 _ 49 (0, 0) 1
  · exact World.cell?_alloc_mark w1 _ 49 (0, 0) 2
  · exact World.cell?_alloc_mark w1 _ 49 (0, 0) 3
  · exact World.frozen?_alloc_new w1 _ 49 o
  · exact (World.frozen?_alloc_old w1 _ ⟨g, o, none⟩ hne).trans (ho.frozenAt o)

set_option maxRecDepth 100000 in
set_option maxHeartbeats 400000 in
theorem new_ok (n : Nat) (w : World) (h1 : 1 ≤ n) (h2 : n ≤ 1024) :
    Calls Tryz.prog 4 #[.int .i64 n] w fun e w' => ∃ g h cap, e = .returned (.tuple #[P0 h, .int .i64 0]) ∧ IsFl w' g h cap (Fl.blank n) ∧ Below w.heap.size w w' ∧ w.heap.size ≤ g ∧ w.heap.size ≤ h := by
  obtain ⟨i0, hi, hz0, hz1, hz2⟩ := info_parts Tryz.info99
  go_enter Tryz.func4, Tryz.ntmps4
  go_wp2_with (at_make; refine wpList_make_full _ rfl _ _ 45 rfl w.heap.size 99 i0 (.agg zCells) 33 Tryz.underlying45 hi hz0 hz1 _ _ _ _ n rfl rfl rfl rfl ?b2 ?b3 (Nat.le_refl _) ?_)
  case b2 => rw [hz2]; omega
  case b3 => unfold maxLen; omega
  intro w1 ho hg
  go_wp2
  go_ret2
  obtain ⟨hI, hB⟩ := isFl_of_own (F := Fl.blank n) h1 h2 ho
    (fun i j (hi : i < n) hj => by
      rw [made_at n _ (by omega), show (i * 33 + j * 2) % 33 = j * 2 by omega, (z_st j hj).1]; rfl)
    (fun i j (hi : i < n) hj => by
      rw [made_at n _ (by omega), show (i * 33 + j * 2 + 1) % 33 = j * 2 + 1 by omega, (z_st j hj).2]; rfl)
    (fun i (hi : i < n) => by
      rw [made_at n _ (by omega), show (i * 33 + 32) % 33 = 32 by omega]; rfl)
  exact ⟨_, _, _, rfl, hI, ((Below.refl _ _).grown hg (Nat.le_refl _) (fun k h => by cases h)).alloc hg.size _, hB, hg.size⟩

set_option maxRecDepth 100000 in
set_option maxHeartbeats 400000 in
theorem new_arg (n : Int) (w : World) (h : ¬ (1 ≤ n ∧ n ≤ 1024)) :
    Calls Tryz.prog 4 #[.int .i64 n] w fun e w' => e = .returned (.tuple #[.pointer none, .int .i64 1]) ∧ w = w' := by
  have h' : n < 1 ∨ 1024 < n := by omega
  clear h
  rcases h' with h | h
  all_goals
    go_enter Tryz.func4, Tryz.ntmps4
    go_wp2
    go_ret2
    exact ⟨rfl, rfl⟩

end Go.Proofs.YtiijbklaapaheaaGreat
