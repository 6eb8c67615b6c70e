/- slices.Sort, and Agreed. -/
import Derived.Test.YtgehhoddmmjmjaaSR
import Derived.Lib.BitFns
namespace Go.Proofs.Ytgehhoddmmjmjaa
open Go.RowKit

set_option maxHeartbeats 4000000 in
set_option maxRecDepth 100000 in
theorem len64_any (x : Int) (h1 : 0 ≤ x) (h2 : x ≤ 255) (w : World) :
    Calls Try.prog 53 #[.int .u64 x] w fun e w' => (∃ m : Int, e = .returned (.int .i64 m)) ∧ w = w' := by
  have hsz : (Lib.len8tab.size : Int) = 256 := by rw [Lib.len8tab_size]; rfl
  go_enter Try.func53, Try.ntmps53
  go_wp2
  go_ret
  exact ⟨⟨_, rfl⟩, rfl⟩

set_option maxHeartbeats 400000 in
theorem len_any (n : Nat) (h : n ≤ 12) (w : World) :
    Calls Try.prog 41 #[.int .u64 n] w fun e w' => (∃ m : Int, e = .returned (.int .i64 m)) ∧ w = w' := by
  go_enter Try.func41, Try.ntmps41
  go_wp2_with (go_at_call 53; refine (len64_any n (by omega) (by omega) w).mono ?_; rintro e w' ⟨⟨m, rfl⟩, rfl⟩)
  go_ret
  exact ⟨⟨_, rfl⟩, rfl⟩

set_option maxRecDepth 100000 in
set_option maxHeartbeats 1600000 in
theorem pdq_any {w : World} {g n cap : Nat} {f : Nat → Int} (hn : n ≤ 12) (H : SeesF w g n f) (m : Int) :
    Calls Try.prog 40 #[.slice (some ⟨g, 0, none⟩) n cap, .int .i64 0, .int .i64 n, .int .i64 m] w fun e w' => e = .returned (.tuple #[]) ∧ (∃ f', Rises f' n ∧ (∀ p, cnt p f' n = cnt p f n) ∧ SeesF w' g n f') ∧ Upd (One g) w.heap.size w w' := by
  have HI := hide (ins_any (cap := cap) hn H)
  clear H
  go_enter Try.func40, Try.ntmps40
  go_wp2
  go_loopw [1, 2] (fun a b wr => a = .int .i64 0 ∧ b = .int .i64 n ∧ wr = w) (fun _ _ _ => 0)
  case atStart => exact ⟨rfl, rfl, rfl⟩
  case round =>
    obtain ⟨rfl, rfl, rfl⟩ := hrel
    go_wp2_with fail
    refine (unhide HI).mono ?_
    rintro e w' ⟨rfl, h1, h2⟩
    have HX := hide (And.intro h1 h2)
    clear h1 h2
    go_wp2
    refine bodyPost_ret (results_none rfl _ _ _) rfl ?_
    exact ⟨rfl, unhide HX⟩

set_option maxHeartbeats 400000 in
theorem sort_any {w : World} {g n cap : Nat} {f : Nat → Int} (hn : n ≤ 12) (H : SeesF w g n f) :
    Calls Try.prog 31 #[.slice (some ⟨g, 0, none⟩) n cap] w fun e w' => e = .returned (.tuple #[]) ∧ (∃ f', Rises f' n ∧ (∀ p, cnt p f' n = cnt p f n) ∧ SeesF w' g n f') ∧ Upd (One g) w.heap.size w w' := by
  have HI : Hid (∀ m, _) := fun m => pdq_any (cap := cap) hn H m
  have hc : IntKind.u64.wrap (n : Int) = n := by rw [IntKind.wrap_u64]; omega
  clear H
  go_enter Try.func31, Try.ntmps31
  go_wp2_with fail
  refine (len_any n hn w).mono ?_
  rintro e w' ⟨⟨m, rfl⟩, rfl⟩
  go_wp2_with fail
  refine (unhide HI m).mono ?_
  rintro e w' ⟨rfl, h1, h2⟩
  have HX := hide (And.intro h1 h2)
  clear h1 h2
  go_wp2
  go_end0
  exact ⟨rfl, unhide HX⟩

theorem Try.info2 : (Try.prog.info? 2).map (fun i => (i.zero, i.size, i.bytes)) = some (some (.int .i64 0), 1, 8) := by kernel_rfl
def zI (n : Nat) : Array Value := madeCells #[.int .i64 0] n
theorem makeI (n : Nat) (hn : n ≤ 5) (W : World) : (Instr.makeSlice 60 (.int .i64 n) (.int .i64 n)).run Try.prog W = .ok (.slice (some ⟨W.heap.size, 0, none⟩) n n) (W.alloc (.cells (zI n) 2)) := by
  obtain ⟨i4, hi4, hz0, hz1, hz2⟩ := info_parts Try.info2
  have h := run_make (P := Try.prog) W 60 2 i4 _ Try.underlying60 hi4 hz0 .i64 .i64 n n (by omega) (by omega) (by rw [hz2]; omega) (by omega)
  rw [hz1] at h
  rw [Nat.mul_one] at h
  exact h
theorem zI_at (n i : Nat) (h : i < n) : (zI n)[i]? = some (.int .i64 0) := by
  unfold zI madeCells
  rw [Array.getElem?_map, Array.getElem?_range, if_pos h]
  simp [Nat.mod_one]
theorem zI_sees (w : World) (n : Nat) : SeesF (w.alloc (.cells (zI n) 2)) w.heap.size n (fun _ => 0) :=
  ⟨fun t ht => (World.cell?_alloc_mark w (zI n) 2 (0, 0) t).trans (zI_at n t ht), fun o => by unfold World.frozen?; rw [heap_alloc_new]; simp⟩

/-- The first k are f's. -/
def upTo (f : Nat → Int) (k : Nat) : Nat → Int := fun t => if t < k then f t else 0

/-- Where the row of likes stands. -/
def LikesAt (w : World) (n : Nat) (f : Nat → Int) (c : Value) (wr : World) : Prop :=
  ∃ k : Nat, k ≤ n ∧ c = .int .i64 k ∧ SeesF wr w.heap.size n (upTo f k) ∧ Below w.heap.size w wr ∧ w.heap.size < wr.heap.size

def Bk.agreed (B : Bk) : Int := agr B.lk B.n

set_option maxRecDepth 100000 in
set_option maxHeartbeats 1600000 in
theorem agreed_yes {h : Nat} {B : Bk} {w : World} (H : IsB w h B) (O : B.Ok) :
    Calls Try.prog 13 #[P0 h] w fun e w' => e = .returned (.int .i64 B.agreed) ∧ Below w.heap.size w w' := by
  have h0 := H.c0
  have hp := O.pos; have h5 := O.le
  have HM := hide (made_yes H O)
  have HH := hide H
  have HO := hide O
  have hmk := makeI B.n h5
  clear H O
  go_enter Try.func13, Try.ntmps13
  go_wp2_with (first
      | (go_at_call 30; refine (unhide HM).mono ?_; rintro e w' ⟨rfl, rfl⟩))
  go_loopw [16] (fun c wr => LikesAt w B.n B.lk c wr) (fun c _ => B.n - (intOf c).toNat)
  case atStart => exact ⟨0, by omega, rfl, (zI_sees w B.n).ext fun t _ => by simp [upTo], (Below.refl _ _).alloc (Nat.le_refl _) _, by simp⟩
  case round =>
    obtain ⟨k, hk, rfl, hF, hB, hS⟩ := hrel
    by_cases hlt : k < B.n
    · have hc := ((unhide HH).keepB (hB.block h (unhide HH).lt)).cl k (by omega)
      have hk0 : (0 : Int) ≤ (k : Int) := by omega
      have hk5 : (k : Int) < 5 := by omega
      have hkn : (k : Int) < B.n := by omega
      have hx := hF.at' k hlt
      have hfr := hF.fr
      have HX : Hid (LikesAt w B.n B.lk (.int .i64 ((k : Int) + 1)) (wr.setCell ⟨w.heap.size, k, none⟩ (.int .i64 (B.lk k)))) := by
        refine ⟨k + 1, by omega, by simp, (hF.set k hlt (B.lk k)).ext fun t ht => ?_, hB.setCell (p := ⟨w.heap.size, k, none⟩) (Nat.le_refl _) _, by simpa [World.setCell] using hS⟩
        simp only [set1, upTo]
        by_cases c : t = k
        · subst c; simp
        · rw [if_neg c]; by_cases c2 : t < k
          · rw [if_pos c2, if_pos (by omega)]
          · rw [if_neg c2, if_neg (by omega)]
      clear hF hB hS
      go_wp2
      go_roundw
      case rel => exact unhide HX
      case measure => simp [intOf]; omega
    · obtain rfl : k = B.n := by omega
      have hF' : SeesF wr w.heap.size B.n B.lk := hF.ext fun t ht => by simp [upTo, ht]
      have HST := hide (sort_any (cap := B.n) (by omega) hF')
      have HB := hide hB
      have HS := hide hS
      clear hF hF' hB hS
      go_wp2_with fail
      refine (unhide HST).mono ?_
      rintro e w1 ⟨rfl, ⟨f', hR, hC, hF⟩, hU⟩
      have hb1 : Below w.heap.size w w1 := (unhide HB).trans (hU.below (unhide HB).size (fun k hk c => by simp only [One] at c; omega))
      have q0 := ((unhide HH).keepB (hb1.block h (unhide HH).lt)).c0
      have hm : (B.n - 1) / 2 < B.n := by omega
      have qa := hF.at' _ hm
      have HA : Hid (f' ((B.n - 1) / 2) = B.agreed) := by
        have hI := mid_agr hp hR hC
        obtain ⟨t, ht, e⟩ := hI.mem
        exact (agr_eq hI (by rw [← e]; exact (unhide HO).l0 t ht)).symm
      have HB1 := hide hb1
      clear hF hR hC hU hb1 hm HST
      go_wp2
      go_ret
      exact ⟨ret_int (unhide HA), unhide HB1⟩

end Go.Proofs.Ytgehhoddmmjmjaa
