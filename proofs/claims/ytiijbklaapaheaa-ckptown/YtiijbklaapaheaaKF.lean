/- Several texts as one. -/
import Derived.Test.YtiijbklaapaheaaKE
import Derived.Test.YtiijbklaapaheaaCQ
import Derived.Test.YtiijbklaapaheaaCR

/- Save's ways out by an error ahead of the flash. -/
namespace Go.Proofs.Ytiijbklaapaheaa
open Go.RowKit
set_option maxRecDepth 100000

set_option maxHeartbeats 800000 in
theorem save_reg {w : World} {g h cap : Nat} {F : Fl} (H : IsFl w g h cap F) (f n : Int) (hf : f ≤ 9223372036854775807) (slot last : Int) (ao : Option Addr) (len dcap : Nat) (hr : regE F.n f n ≠ 0) :
    Calls Try.prog 18 #[P0 h, .agg #[.int .i64 f, .int .i64 n], .agg #[.int .i64 slot, .int .i64 last, .slice ao len dcap]] w fun e w' => e = .returned (.int .i64 (regE F.n f n)) ∧ Below w.heap.size w w' := by
  obtain ⟨B, hB⟩ : ∃ B, (w.alloc (.cells #[.int .i64 f, .int .i64 n] 26)).alloc (.cells #[.int .i64 slot, .int .i64 last, .slice ao len dcap] 24) = B := ⟨_, rfl⟩
  have HBB : Hid (Below w.heap.size w B) := hB ▸ ((Below.refl _ _).alloc (Nat.le_refl _) _).alloc (by simp) _
  have HSZ : Hid (B.heap.size = w.heap.size + 2) := by show _ = _; rw [← hB]; simp
  have HBX : Hid (∀ x, Below B.heap.size B x → (x.cell? ⟨w.heap.size, 0, none⟩ = some (.int .i64 f) ∧ x.cell? ⟨w.heap.size, 1, none⟩ = some (.int .i64 n)) ∧ (x.cell? ⟨w.heap.size + 1, 0, none⟩ = some (.int .i64 slot) ∧ x.cell? ⟨w.heap.size + 1, 1, none⟩ = some (.int .i64 last) ∧ x.cell? ⟨w.heap.size + 1, 2, none⟩ = some (.slice ao len dcap))) := fun x hx => by
    have hs := unhide HSZ
    have c : ∀ b o, b < w.heap.size + 2 → x.cell? ⟨b, o, none⟩ = B.cell? ⟨b, o, none⟩ := fun b o hb => hx.cell (p := ⟨b, o, none⟩) (by show b < _; omega)
    refine ⟨⟨?_, ?_⟩, ?_, ?_, ?_⟩ <;> (rw [c _ _ (by omega), ← hB]; simp [go_sem, World.cell?_alloc_old])
  obtain ⟨⟨q0, q1⟩, q2, q3, q4⟩ := unhide HBX B (Below.refl _ _)
  have HI := hide (H.below (unhide HBB))
  clear H
  have HRG := hide (region_any (unhide HI) f n hf)
  generalize regE F.n f n = re at HRG hr ⊢
  have hr' : ((re : Int) != 0) = true := by simp [hr]
  go_enter Try.func18, Try.ntmps18
  go_wp2_with (rw [hB])
  refine (unhide HRG).mono ?_
  rintro e w1 ⟨rfl, b1⟩
  have HB1 := hide b1
  clear b1 q0 q1 q2 q3 q4
  go_wp2
  go_ret
  exact ⟨rfl, (unhide HBB).trans ((unhide HB1).mono (unhide HBB).size)⟩

set_option maxHeartbeats 800000 in
theorem save_fault {w : World} {g h cap : Nat} {F : Fl} (H : IsFl w g h cap F) (f n : Int) (hf : f ≤ 9223372036854775807) (slot last : Int) (ao : Option Addr) (len dcap : Nat) (hl : len ≤ 140737488355328) (hr : regE F.n f n = 0) (hx : faultE 1 slot last len ≠ 0) :
    Calls Try.prog 18 #[P0 h, .agg #[.int .i64 f, .int .i64 n], .agg #[.int .i64 slot, .int .i64 last, .slice ao len dcap]] w fun e w' => e = .returned (.int .i64 (faultE 1 slot last len)) ∧ Below w.heap.size w w' := by
  obtain ⟨B, hB⟩ : ∃ B, (w.alloc (.cells #[.int .i64 f, .int .i64 n] 26)).alloc (.cells #[.int .i64 slot, .int .i64 last, .slice ao len dcap] 24) = B := ⟨_, rfl⟩
  have HBB : Hid (Below w.heap.size w B) := hB ▸ ((Below.refl _ _).alloc (Nat.le_refl _) _).alloc (by simp) _
  have HSZ : Hid (B.heap.size = w.heap.size + 2) := by show _ = _; rw [← hB]; simp
  have HBX : Hid (∀ x, Below B.heap.size B x → (x.cell? ⟨w.heap.size, 0, none⟩ = some (.int .i64 f) ∧ x.cell? ⟨w.heap.size, 1, none⟩ = some (.int .i64 n)) ∧ (x.cell? ⟨w.heap.size + 1, 0, none⟩ = some (.int .i64 slot) ∧ x.cell? ⟨w.heap.size + 1, 1, none⟩ = some (.int .i64 last) ∧ x.cell? ⟨w.heap.size + 1, 2, none⟩ = some (.slice ao len dcap))) := fun x hx => by
    have hs := unhide HSZ
    have c : ∀ b o, b < w.heap.size + 2 → x.cell? ⟨b, o, none⟩ = B.cell? ⟨b, o, none⟩ := fun b o hb => hx.cell (p := ⟨b, o, none⟩) (by show b < _; omega)
    refine ⟨⟨?_, ?_⟩, ?_, ?_, ?_⟩ <;> (rw [c _ _ (by omega), ← hB]; simp [go_sem, World.cell?_alloc_old])
  obtain ⟨⟨q0, q1⟩, q2, q3, q4⟩ := unhide HBX B (Below.refl _ _)
  have HI := hide (H.below (unhide HBB))
  clear H
  have HRG := hide (region_any (unhide HI) f n hf)
  rw [hr] at HRG
  have HFA := hide (fun x => fault_any 1 slot last ao len dcap x (by omega))
  generalize faultE 1 slot last len = fe at HFA hx ⊢
  have hx' : ((fe : Int) != 0) = true := by simp [hx]
  go_enter Try.func18, Try.ntmps18
  go_wp2_with (rw [hB])
  refine (unhide HRG).mono ?_
  rintro e w1 ⟨rfl, b1⟩
  have HB1 := hide b1
  clear b1 q0 q1 q2 q3 q4
  obtain ⟨⟨q0, q1⟩, q2, q3, q4⟩ := unhide HBX w1 (unhide HB1)
  go_wp2_with fail
  refine (unhide HFA w1).mono ?_
  rintro e w2 ⟨rfl, b2⟩
  have HB2 := hide ((unhide HB1).trans (b2.mono (unhide HB1).size))
  clear b2 q0 q1 q2 q3 q4
  go_wp2
  go_ret
  exact ⟨rfl, (unhide HBB).trans ((unhide HB2).mono (unhide HBB).size)⟩

set_option maxHeartbeats 800000 in
theorem save_down {w : World} {g h cap : Nat} {F : Fl} (H : IsFl w g h cap F) (f n : Int) (hf : f ≤ 9223372036854775807) (slot last : Int) (ao : Option Addr) (len dcap : Nat) (hl : len ≤ 140737488355328) (hr : regE F.n f n = 0) (hx : faultE 1 slot last len = 0) (hdn : F.down = true) :
    Calls Try.prog 18 #[P0 h, .agg #[.int .i64 f, .int .i64 n], .agg #[.int .i64 slot, .int .i64 last, .slice ao len dcap]] w fun e w' => e = .returned (.int .i64 7) ∧ Below w.heap.size w w' := by
  obtain ⟨B, hB⟩ : ∃ B, (w.alloc (.cells #[.int .i64 f, .int .i64 n] 26)).alloc (.cells #[.int .i64 slot, .int .i64 last, .slice ao len dcap] 24) = B := ⟨_, rfl⟩
  have HBB : Hid (Below w.heap.size w B) := hB ▸ ((Below.refl _ _).alloc (Nat.le_refl _) _).alloc (by simp) _
  have HSZ : Hid (B.heap.size = w.heap.size + 2) := by show _ = _; rw [← hB]; simp
  have HBX : Hid (∀ x, Below B.heap.size B x → (x.cell? ⟨w.heap.size, 0, none⟩ = some (.int .i64 f) ∧ x.cell? ⟨w.heap.size, 1, none⟩ = some (.int .i64 n)) ∧ (x.cell? ⟨w.heap.size + 1, 0, none⟩ = some (.int .i64 slot) ∧ x.cell? ⟨w.heap.size + 1, 1, none⟩ = some (.int .i64 last) ∧ x.cell? ⟨w.heap.size + 1, 2, none⟩ = some (.slice ao len dcap))) := fun x hx => by
    have hs := unhide HSZ
    have c : ∀ b o, b < w.heap.size + 2 → x.cell? ⟨b, o, none⟩ = B.cell? ⟨b, o, none⟩ := fun b o hb => hx.cell (p := ⟨b, o, none⟩) (by show b < _; omega)
    refine ⟨⟨?_, ?_⟩, ?_, ?_, ?_⟩ <;> (rw [c _ _ (by omega), ← hB]; simp [go_sem, World.cell?_alloc_old])
  obtain ⟨⟨q0, q1⟩, q2, q3, q4⟩ := unhide HBX B (Below.refl _ _)
  have HI := hide (H.below (unhide HBB))
  clear H
  have HRG := hide (region_any (unhide HI) f n hf)
  rw [hr] at HRG
  have HFA := hide (fun x => fault_any 1 slot last ao len dcap x (by omega))
  rw [hx] at HFA
  go_enter Try.func18, Try.ntmps18
  go_wp2_with (rw [hB])
  refine (unhide HRG).mono ?_
  rintro e w1 ⟨rfl, b1⟩
  have HB1 := hide b1
  clear b1 q0 q1 q2 q3 q4
  obtain ⟨⟨q0, q1⟩, q2, q3, q4⟩ := unhide HBX w1 (unhide HB1)
  go_wp2_with fail
  refine (unhide HFA w1).mono ?_
  rintro e w2 ⟨rfl, b2⟩
  have HB2 := hide ((unhide HB1).trans (b2.mono (unhide HB1).size))
  clear b2 q0 q1 q2 q3 q4
  have HDN := hide (down_any ((unhide HI).below (unhide HB2)))
  rw [hdn] at HDN
  go_wp2_with (go_at_call 43; refine (unhide HDN).mono ?_; rintro e w' ⟨rfl, rfl⟩)
  go_ret
  exact ⟨rfl, (unhide HBB).trans ((unhide HB2).mono (unhide HBB).size)⟩

set_option maxHeartbeats 1600000 in
theorem save_full {w : World} {g h cap : Nat} {F : Fl} (H : IsFl w g h cap F) (hP : ∀ i j, (F.readB i j).length ≤ 256) (f n : Nat) (hfn : f + n ≤ F.n) (slot last : Int) (ao : Option Addr) (len dcap : Nat) (hl : len ≤ 140737488355328) (hr : regE F.n f n = 0) (hx : faultE 1 slot last len = 0) (hdn : F.down = false) (hnum : (nwk F f (n / 2) 2).ck.num = 1099511627776) :
    Calls Try.prog 18 #[P0 h, .agg #[.int .i64 f, .int .i64 n], .agg #[.int .i64 slot, .int .i64 last, .slice ao len dcap]] w fun e w' => e = .returned (.int .i64 6) ∧ Below w.heap.size w w' := by
  have hle := H.le
  obtain ⟨B, hB⟩ : ∃ B, (w.alloc (.cells #[.int .i64 f, .int .i64 n] 26)).alloc (.cells #[.int .i64 slot, .int .i64 last, .slice ao len dcap] 24) = B := ⟨_, rfl⟩
  have HBB : Hid (Below w.heap.size w B) := hB ▸ ((Below.refl _ _).alloc (Nat.le_refl _) _).alloc (by simp) _
  have HSZ : Hid (B.heap.size = w.heap.size + 2) := by show _ = _; rw [← hB]; simp
  have HBX : Hid (∀ x, Below B.heap.size B x → (x.cell? ⟨w.heap.size, 0, none⟩ = some (.int .i64 f) ∧ x.cell? ⟨w.heap.size, 1, none⟩ = some (.int .i64 n)) ∧ (x.cell? ⟨w.heap.size + 1, 0, none⟩ = some (.int .i64 slot) ∧ x.cell? ⟨w.heap.size + 1, 1, none⟩ = some (.int .i64 last) ∧ x.cell? ⟨w.heap.size + 1, 2, none⟩ = some (.slice ao len dcap))) := fun x hx => by
    have hs := unhide HSZ
    have c : ∀ b o, b < w.heap.size + 2 → x.cell? ⟨b, o, none⟩ = B.cell? ⟨b, o, none⟩ := fun b o hb => hx.cell (p := ⟨b, o, none⟩) (by show b < _; omega)
    refine ⟨⟨?_, ?_⟩, ?_, ?_, ?_⟩ <;> (rw [c _ _ (by omega), ← hB]; simp [go_sem, World.cell?_alloc_old])
  obtain ⟨⟨q0, q1⟩, q2, q3, q4⟩ := unhide HBX B (Below.refl _ _)
  have HI := hide (H.below (unhide HBB))
  clear H
  have HRG := hide (region_any (unhide HI) f n (by omega))
  rw [hr] at HRG
  have HFA := hide (fun x => fault_any 1 slot last ao len dcap x (by omega))
  rw [hx] at HFA
  go_enter Try.func18, Try.ntmps18
  go_wp2_with (rw [hB])
  refine (unhide HRG).mono ?_
  rintro e w1 ⟨rfl, b1⟩
  have HB1 := hide b1
  clear b1 q0 q1 q2 q3 q4
  obtain ⟨⟨q0, q1⟩, q2, q3, q4⟩ := unhide HBX w1 (unhide HB1)
  go_wp2_with fail
  refine (unhide HFA w1).mono ?_
  rintro e w2 ⟨rfl, b2⟩
  have HB2 := hide ((unhide HB1).trans (b2.mono (unhide HB1).size))
  clear b2 q0 q1 q2 q3 q4
  obtain ⟨⟨q0, q1⟩, q2, q3, q4⟩ := unhide HBX w2 (unhide HB2)
  have HI2 := hide ((unhide HI).below (unhide HB2))
  have HDN := hide (down_any (unhide HI2))
  rw [hdn] at HDN
  have HNW := hide (newest_any (unhide HI2) hP f n (by omega) (by omega))
  rw [hnum] at HNW
  go_wp2_with (first | (go_at_call 43; refine (unhide HDN).mono ?_; rintro e w' ⟨rfl, rfl⟩) | fail)
  refine (unhide HNW).mono ?_
  rintro e w3 ⟨nv, rfl, ho3, b3⟩
  obtain ⟨na, nc, rfl⟩ := own_shape ho3
  have HB3 := hide ((unhide HB2).trans (b3.mono (unhide HB2).size))
  generalize nwk F f (n / 2) 2 = c at *
  clear b3 ho3 q0 q1 q2 q3 q4
  go_wp2
  go_ret
  exact ⟨rfl, ((unhide HBB).trans ((unhide HB3).mono (unhide HBB).size)).alloc (Nat.le_trans (unhide HBB).size (unhide HB3).size) _⟩
end Go.Proofs.Ytiijbklaapaheaa

/- Save, whatever it is asked. -/
namespace Go.Proofs.Ytiijbklaapaheaa
open Go.RowKit
set_option maxRecDepth 100000

theorem save_any {w : World} {g h cap : Nat} {F : Fl} (H : IsFl w g h cap F) (hc0 : 0 ≤ F.cnt) (hm : F.cnt ≤ 9223372036854775807) (hP : ∀ i j, (F.readB i j).length ≤ 256) (f n : Int) (hf : f ≤ 9223372036854775807) (slot last : Int) (ao : Option Addr) (dcap : Nat) (ds : List Int)
    (hd : Sees w .u8 (.slice ao ds.length dcap) ds) (hby : Byt ds) (hl : ds.length ≤ 140737488355328) :
    Calls Try.prog 18 #[P0 h, .agg #[.int .i64 f, .int .i64 n], .agg #[.int .i64 slot, .int .i64 last, .slice ao ds.length dcap]] w fun e w' => e = .returned (.int .i64 (sav F f n slot last ds).1) ∧ IsFl w' g h cap (sav F f n slot last ds).2 ∧ Upd (Two g h) w.heap.size w w' := by
  unfold sav
  by_cases hr : regE F.n f n = 0
  case neg =>
    rw [if_pos hr]
    exact (save_reg H f n hf slot last ao ds.length dcap hr).mono fun e w' hb => ⟨hb.1, H.below hb.2, Upd.of hb.2⟩
  rw [if_neg (not_not_intro hr)]
  by_cases hx : faultE 1 slot last ds.length = 0
  case neg =>
    rw [if_pos hx]
    exact (save_fault H f n hf slot last ao ds.length dcap hl hr hx).mono fun e w' hb => ⟨hb.1, H.below hb.2, Upd.of hb.2⟩
  rw [if_neg (not_not_intro hx)]
  by_cases hdn : F.down = true
  · rw [if_pos hdn]
    exact (save_down H f n hf slot last ao ds.length dcap hl hr hx hdn).mono fun e w' hb => ⟨hb.1, H.below hb.2, Upd.of hb.2⟩
  rw [if_neg hdn]
  have hdn' : F.down = false := by simpa using hdn
  obtain ⟨f', n', rfl, rfl, hn2, hfn⟩ := regE_is hr H.le
  simp only [Int.toNat_natCast]
  by_cases hnum : (nwk F f' (n' / 2) 2).ck.num = 1099511627776
  · rw [if_pos hnum]
    exact (save_full H hP f' n' hfn slot last ao ds.length dcap hl hr hx hdn' hnum).mono fun e w' hb => ⟨hb.1, H.below hb.2, Upd.of hb.2⟩
  rw [if_neg hnum]
  by_cases hhas : 0 < (nwk F f' (n' / 2) 2).ck.num
  · exact save_has H hc0 hm hP f' n' hn2 hfn hr slot last _ ds hd hby hx hdn' hhas hnum
  · exact save_none H hc0 hm hP f' n' hn2 hfn hr slot last _ ds hd hby hx hdn' hhas hnum
end Go.Proofs.Ytiijbklaapaheaa
