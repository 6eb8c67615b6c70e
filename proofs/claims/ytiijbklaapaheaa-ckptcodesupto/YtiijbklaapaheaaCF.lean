/- Checkpoints: a half is cleared. -/
import Derived.Test.YtiijbklaapaheaaCC
import Derived.Test.YtiijbklaapaheaaCD
import Derived.Test.YtiijbklaapaheaaUB
namespace Go.Proofs.Ytiijbklaapaheaa
open Go.RowKit
set_option maxRecDepth 100000

theorem changed_cnt (F : Fl) (act : Fl → Int → ByteArray → Fl) (hact : ∀ F s b, (act F s b).cnt = F.cnt) (s : Int) (b : ByteArray) (h0 : 0 ≤ F.cnt) (h1 : F.cnt ≤ 9223372036854775807) : 0 ≤ (F.changed act s b).cnt ∧ (F.changed act s b).cnt ≤ 9223372036854775807 := by
  unfold Fl.changed
  split
  · exact ⟨Int.le_refl _, by show (0 : Int) ≤ _; omega⟩
  · rw [hact]
    unfold Fl.burnt
    split
    · exact ⟨h0, h1⟩
    · constructor
      · show 0 ≤ F.cnt - 1; omega
      · show F.cnt - 1 ≤ _; omega
theorem prog_cnt (F : Fl) (i j : Int) (zs : List Int) (h0 : 0 ≤ F.cnt) (h1 : F.cnt ≤ 9223372036854775807) : 0 ≤ (F.prog i j zs).2.cnt ∧ (F.prog i j zs).2.cnt ≤ 9223372036854775807 := by
  unfold Fl.prog
  (repeat' split) <;> first | exact ⟨h0, h1⟩ | exact changed_cnt F (putA i.toNat j.toNat) (fun _ _ _ => rfl) _ _ h0 h1
theorem erase_cnt (F : Fl) (i : Int) (h0 : 0 ≤ F.cnt) (h1 : F.cnt ≤ 9223372036854775807) : 0 ≤ (F.erase i).2.cnt ∧ (F.erase i).2.cnt ≤ 9223372036854775807 := by
  unfold Fl.erase
  (repeat' split) <;> first | exact ⟨h0, h1⟩ | exact changed_cnt F (anewA i.toNat) (fun _ _ _ => rfl) _ _ h0 h1

/-- So many blocks from one on are erased where they are in use. -/
def clr (F : Fl) (b : Nat) : Nat → Int × Fl
  | 0 => (0, F)
  | k + 1 => if F.usedE b = 0 then clr F (b + 1) k else if (F.erase b).1 ≠ 0 then F.erase b else clr (F.erase b).2 (b + 1) k
theorem clr_succ (F : Fl) (b k : Nat) : clr F b (k + 1) = if F.usedE b = 0 then clr F (b + 1) k else if (F.erase b).1 ≠ 0 then F.erase b else clr (F.erase b).2 (b + 1) k := rfl

theorem clr_cnt (k : Nat) : ∀ (F : Fl) (b : Nat), 0 ≤ F.cnt → F.cnt ≤ 9223372036854775807 → 0 ≤ (clr F b k).2.cnt ∧ (clr F b k).2.cnt ≤ 9223372036854775807 ∧ (clr F b k).2.n = F.n := by
  induction k with
  | zero => intro F b h0 h1; exact ⟨h0, h1, rfl⟩
  | succ k ih =>
    intro F b h0 h1
    obtain ⟨e0, e1⟩ := erase_cnt F b h0 h1
    unfold clr
    split
    · exact ih _ _ h0 h1
    · split
      · exact ⟨e0, e1, erase_n F b⟩
      · obtain ⟨q0, q1, q2⟩ := ih (F.erase b).2 (b + 1) e0 e1
        exact ⟨q0, q1, q2.trans (erase_n F b)⟩

set_option maxHeartbeats 3200000 in
theorem clear_any {w : World} {g h cap : Nat} {F : Fl} (H : IsFl w g h cap F) (hc0 : 0 ≤ F.cnt) (hm : F.cnt ≤ 9223372036854775807) (f n : Nat) (hf : f ≤ 1099511627776) (hn : n ≤ 1099511627776) :
    Calls Try.prog 75 #[halfV h f n] w fun e w' => e = .returned (.int .i64 (clr F f n).1) ∧ IsFl w' g h cap (clr F f n).2 ∧ Upd (Two g h) w.heap.size w w' := by
  obtain ⟨B, hB⟩ : ∃ B, w.alloc (.cells #[P0 h, .int .i64 f, .int .i64 n] 78) = B := ⟨_, rfl⟩
  have HAL : Hid (Below w.heap.size w B) := hB ▸ (Below.refl _ _).alloc (Nat.le_refl _) _
  have HSZ : Hid (B.heap.size = w.heap.size + 1) := by rw [← hB]; exact World.size_alloc ..
  have hg := H.glt; have hh := H.hlt
  have HBX : Hid (∀ x, Upd (Two g h) (w.heap.size + 1) B x → x.cell? ⟨w.heap.size, 0, none⟩ = some (P0 h) ∧ x.cell? ⟨w.heap.size, 1, none⟩ = some (.int .i64 f) ∧ x.cell? ⟨w.heap.size, 2, none⟩ = some (.int .i64 n)) := by
    intro x hx
    have hb := box3f (w := w) (w1 := B) (x0 := P0 h) (x1 := .int .i64 f) (x2 := .int .i64 n) (t := 78) (by rw [hB]; exact Below.refl _ _)
    have hne : ¬ Two g h w.heap.size := by show ¬ (w.heap.size = g ∨ w.heap.size = h); omega
    refine ⟨?_, ?_, ?_⟩
    · rw [hx.cell (p := ⟨w.heap.size, 0, none⟩) (Nat.lt_succ_self _) hne]; exact hb.1
    · rw [hx.cell (p := ⟨w.heap.size, 1, none⟩) (Nat.lt_succ_self _) hne]; exact hb.2.1
    · rw [hx.cell (p := ⟨w.heap.size, 2, none⟩) (Nat.lt_succ_self _) hne]; exact hb.2.2.1
  have HI := hide (H.below (unhide HAL))
  have q := unhide HBX B (Upd.refl _ _ _)
  obtain ⟨q0, q1, q2⟩ := q
  clear H hg hh
  go_enter Try.func75, Try.ntmps75
  go_wp2_with (rw [hB])
  clear q0 q1 q2
  go_loopw [3] (fun c wr => ∃ k : Nat, k ≤ n ∧ c = .int .i64 ((f + k : Nat) : Int) ∧ ∃ G : Fl, IsFl wr g h cap G ∧ 0 ≤ G.cnt ∧ G.cnt ≤ 9223372036854775807 ∧ clr F f n = clr G (f + k) (n - k) ∧ Upd (Two g h) (w.heap.size + 1) B wr) (fun c _ => f + n - (intOf c).toNat)
  case atStart => exact ⟨0, Nat.zero_le _, rfl, F, unhide HI, hc0, hm, rfl, Upd.refl _ _ _⟩
  case round =>
    obtain ⟨k, hk, rfl, G, hI, g0, g1, hE, hU⟩ := hrel
    obtain ⟨q0, q1, q2⟩ := unhide HBX wr hU
    by_cases hlt : k < n
    · have hlt' : decide (((f + k : Nat) : Int) < (f : Int) + n) = true := by simp; omega
      obtain ⟨m, hmk⟩ : ∃ m, n - k = m + 1 := ⟨n - k - 1, by omega⟩
      rw [hmk] at hE
      rw [clr_succ] at hE
      have HUS := hide (fused_any hI (((f + k : Nat) : Int)))
      have HG := hide hI
      have HU := hide hU
      have HE := hide hE
      clear hI hU hE
      by_cases cu : G.usedE (f + k : Nat) = 0
      · rw [cu] at HUS
        have HE2 := hide ((unhide HE).trans (if_pos cu))
        clear HE
        go_wp2_with fail
        refine (unhide HUS).mono ?_
        rintro e w1 ⟨rfl, hb1⟩
        have HB1 := hide hb1
        clear hb1
        go_wp2
        go_roundw
        case rel => exact ⟨k + 1, by omega, by go_num, G, (unhide HG).below (unhide HB1), g0, g1, by rw [unhide HE2]; congr 1; omega, (unhide HU).trans ((Upd.of (unhide HB1)).less (by have := (unhide HU).size; have := unhide HSZ; omega))⟩
        case measure => simp [intOf]; omega
      · have cu' : (G.usedE (f + k : Nat) == 0) = false := by simpa using cu
        have HE2 := hide ((unhide HE).trans (if_neg cu))
        have HER : Hid (∀ x, IsFl x g h cap G → Calls Try.prog 94 #[P0 h, .int .i64 ((f + k : Nat) : Int)] x fun e w' => e = .returned (.int .i64 (G.erase (f + k : Nat)).1) ∧ IsFl w' g h cap (G.erase (f + k : Nat)).2 ∧ Upd (Two g h) x.heap.size x w') := fun x hx => erase_all hx g0 g1 _
        obtain ⟨e0, e1⟩ := erase_cnt G (f + k : Nat) g0 g1
        clear HE
        generalize G.erase (f + k : Nat) = R at HER HE2 e0 e1
        obtain ⟨er, G2⟩ := R
        simp only at HER HE2 e0 e1
        generalize G.usedE (f + k : Nat) = us at HUS cu'
        by_cases ce : er = 0
        · subst ce
          have HE3 := hide ((unhide HE2).trans (if_neg (by simp)))
          clear HE2
          go_wp2_with fail
          refine (unhide HUS).mono ?_
          rintro e w1 ⟨rfl, hb1⟩
          have HU1 := hide ((unhide HU).trans ((Upd.of hb1).less (by have := (unhide HU).size; have := unhide HSZ; omega)))
          have HC := hide (unhide HER w1 ((unhide HG).below hb1))
          obtain ⟨q0, q1, q2⟩ := unhide HBX w1 (unhide HU1)
          clear hb1
          go_wp2_with fail
          refine (unhide HC).mono ?_
          rintro e w2 ⟨rfl, i2, u2⟩
          have HI2 := hide i2
          have HU2 := hide ((unhide HU1).trans (u2.less (by have := (unhide HU1).size; have := unhide HSZ; omega)))
          clear i2 u2
          go_wp2
          go_roundw
          case rel => exact ⟨k + 1, by omega, by go_num, G2, unhide HI2, e0, e1, by rw [unhide HE3]; congr 1; omega, unhide HU2⟩
          case measure => simp [intOf]; omega
        · have HE3 := hide ((unhide HE2).trans (if_pos ce))
          have ce' : (er != 0) = true := by simpa using ce
          clear HE2
          go_wp2_with fail
          refine (unhide HUS).mono ?_
          rintro e w1 ⟨rfl, hb1⟩
          have HU1 := hide ((unhide HU).trans ((Upd.of hb1).less (by have := (unhide HU).size; have := unhide HSZ; omega)))
          have HC := hide (unhide HER w1 ((unhide HG).below hb1))
          obtain ⟨q0, q1, q2⟩ := unhide HBX w1 (unhide HU1)
          clear hb1
          go_wp2_with fail
          refine (unhide HC).mono ?_
          rintro e w2 ⟨rfl, i2, u2⟩
          have HI2 := hide i2
          have HU2 := hide ((unhide HU1).trans (u2.less (by have := (unhide HU1).size; have := unhide HSZ; omega)))
          clear i2 u2
          go_wp2
          go_ret
          rw [unhide HE3]
          exact ⟨rfl, unhide HI2, (Upd.of (unhide HAL)).trans ((unhide HU2).less (Nat.le_succ _))⟩
    · obtain rfl : k = n := by omega
      have hlt' : decide (((f + k : Nat) : Int) < (f : Int) + k) = false := by simp
      rw [Nat.sub_self] at hE
      have HG := hide hI
      have HU := hide hU
      have HE := hide hE
      clear hI hU hE
      go_wp2
      go_ret
      rw [unhide HE]
      exact ⟨rfl, unhide HG, (Upd.of (unhide HAL)).trans ((unhide HU).less (Nat.le_succ _))⟩

end Go.Proofs.Ytiijbklaapaheaa
