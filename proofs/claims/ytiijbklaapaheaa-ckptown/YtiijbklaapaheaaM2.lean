/- burn, the closures, change. -/
import Derived.Test.YtiijbklaapaheaaM1
namespace Go.Proofs.Ytiijbklaapaheaa
open Go.RowKit
set_option maxRecDepth 100000

/-- A change is counted. -/
def Fl.burnt (F : Fl) : Fl := if F.cnt = 0 then F else { F with cnt := F.cnt - 1 }

set_option maxHeartbeats 400000 in
theorem burn_no {g h cap : Nat} {F : Fl} {w : World} (H : IsFl w g h cap F) (hc : F.cnt = 0) :
    Calls Try.prog 79 #[P0 h] w fun e w' => e = .returned (.tuple #[.int .i64 0, .bool false]) ∧ w = w' := by
  have h1 := H.cnt; rw [hc] at h1
  clear H hc
  go_enter Try.func79, Try.ntmps79
  go_wp2
  go_ret2
  exact ⟨rfl, rfl⟩

set_option maxHeartbeats 400000 in
theorem burn_yes {g h cap : Nat} {F : Fl} {w : World} (H : IsFl w g h cap F) (hc : 0 < F.cnt) (hm : F.cnt ≤ 9223372036854775807) :
    Calls Try.prog 79 #[P0 h] w fun e w' => e = .returned (.tuple #[.int .i64 F.keep, .bool (decide (F.cnt = 1))]) ∧ IsFl w' g h cap { F with cnt := F.cnt - 1 } ∧ Upd (Two g h) w.heap.size w w' := by
  have h1 := H.cnt; have h2 := H.keep; have hf := H.frH
  have HI := hide (H.setCnt (F.cnt - 1))
  obtain ⟨c, hcc⟩ : ∃ c, F.cnt = c := ⟨_, rfl⟩
  rw [hcc] at h1 HI hc hm ⊢
  have hw : wrap64 (c - 1) = c - 1 := by unfold wrap64; omega
  clear H
  go_enter Try.func79, Try.ntmps79
  go_wp2
  go_region
  go_wp2
  go_ret2
  refine ⟨?_, (unhide HI).drew, ((Upd.refl _ _ _).setCell (Or.inl (Or.inr rfl)) _).drew⟩
  have : (c - 1 == 0) = decide (c = 1) := by rw [Bool.eq_iff_iff]; simp; omega
  rw [this]
  rfl

set_option maxHeartbeats 400000 in
theorem put_any {g h cap : Nat} {F : Fl} {w : World} (H : IsFl w g h cap F) (cb i j : Nat) (hi : i < F.n) (hj : j < 16) (hcb : w.cell? ⟨cb, 0, none⟩ = some (.pointer (some ⟨g, i * 33 + j * 2, none⟩))) (s : Int) (b : ByteArray) :
    Calls Try.prog 53 #[.agg #[.int .i64 s, .string b], P0 cb] w fun e w' => e = .returned (.tuple #[]) ∧ IsFl w' g h cap (F.put i j s b) ∧ Upd (Two g h) w.heap.size w w' := by
  have hl := World.block_lt_of_cell? w _ hcb
  have hg := H.glt
  have h1 := H.st i j hi hj
  have h2 := H.bs i j hi hj
  have hf := H.frG
  have HI := hide ((H.put i j hi hj s b).alloc (.cells #[.int .i64 s, .string b] 99))
  clear H
  go_enter Try.func53, Try.ntmps53
  go_wp2
  go_end0
  exact ⟨rfl, unhide HI, (((Upd.refl _ _ _).setCell (Or.inl (Or.inl rfl)) _).setCell (Or.inl (Or.inl rfl)) _).alloc (by simp [World.setCell]) _⟩

def Fl.fill (F : Fl) (i k : Nat) (s : Int) (b : ByteArray) : Fl := { F with st := fun i' j' => if i' = i ∧ j' < k then s else F.st i' j', bs := fun i' j' => if i' = i ∧ j' < k then b else F.bs i' j' }
theorem fill_zero (F : Fl) (i : Nat) (s : Int) (b : ByteArray) : F.fill i 0 s b = F := by
  simp [Fl.fill]
theorem fill_succ (F : Fl) (i k : Nat) (s : Int) (b : ByteArray) : (F.fill i k s b).put i k s b = F.fill i (k + 1) s b := by
  have e : ∀ i' j', (i' = i ∧ j' < k + 1) ↔ (i' = i ∧ j' = k) ∨ (i' = i ∧ j' < k) := fun i' j' => by omega
  simp only [Fl.fill, Fl.put, Fl.setSt, Fl.setBs, Fl.mk.injEq, true_and, and_true]
  constructor
  · funext i' j'
    by_cases c : i' = i ∧ j' = k
    · rw [if_pos c, if_pos ((e i' j').2 (Or.inl c))]
    · rw [if_neg c]
      by_cases d : i' = i ∧ j' < k
      · rw [if_pos d, if_pos ((e i' j').2 (Or.inr d))]
      · rw [if_neg d, if_neg (fun x => ((e i' j').1 x).elim c d)]
  · funext i' j'
    by_cases c : i' = i ∧ j' = k
    · rw [if_pos c, if_pos ((e i' j').2 (Or.inl c))]
    · rw [if_neg c]
      by_cases d : i' = i ∧ j' < k
      · rw [if_pos d, if_pos ((e i' j').2 (Or.inr d))]
      · rw [if_neg d, if_neg (fun x => ((e i' j').1 x).elim c d)]

/-- A block is made anew: all its pages, and one more wear. -/
def Fl.anew (F : Fl) (i : Nat) (s : Int) (b : ByteArray) : Fl := (F.fill i 16 s b).setWear i (wrap64 (F.wear i + 1))

set_option maxHeartbeats 800000 in
theorem anew_any {g h cap : Nat} {F : Fl} {w : World} (H : IsFl w g h cap F) (cb i : Nat) (hi : i < F.n) (hcb : w.cell? ⟨cb, 0, none⟩ = some (.pointer (some ⟨g, i * 33, none⟩))) (hcg : cb ≠ g) (hch : cb ≠ h) (s : Int) (b : ByteArray) :
    Calls Try.prog 105 #[.agg #[.int .i64 s, .string b], P0 cb] w fun e w' => e = .returned (.tuple #[]) ∧ IsFl w' g h cap (F.anew i s b) ∧ Upd (Two g h) w.heap.size w w' := by
  have hl := World.block_lt_of_cell? w _ hcb
  have hg := H.glt
  have hh := H.hlt
  have HH := hide H
  have hbx := World.cell?_alloc_mark w #[Value.int .i64 s, .string b] 99 (0, 0) 0
  have hbx1 := World.cell?_alloc_mark w #[Value.int .i64 s, .string b] 99 (0, 0) 1
  have HX : Hid (∀ wr, Upd (Two g h) (w.heap.size + 1) (w.alloc (.cells #[.int .i64 s, .string b] 99)) wr → wr.cell? ⟨cb, 0, none⟩ = some (.pointer (some ⟨g, i * 33, none⟩)) ∧ wr.cell? ⟨w.heap.size, 0, none⟩ = some (.int .i64 s) ∧ wr.cell? ⟨w.heap.size, 1, none⟩ = some (.string b)) := by
    intro wr hu
    refine ⟨?_, ?_, ?_⟩
    · rw [hu.cell (p := ⟨cb, 0, none⟩) (Nat.lt_succ_of_lt hl) (by show ¬ (cb = g ∨ cb = h); omega), ((Below.refl _ _).alloc (Nat.le_refl _) _).cell (B := w.heap.size) (p := ⟨cb, 0, none⟩) hl]; exact hcb
    · rw [hu.cell (p := ⟨w.heap.size, 0, none⟩) (by show w.heap.size < _; omega) (by show ¬ (w.heap.size = g ∨ w.heap.size = h); omega)]; exact hbx
    · rw [hu.cell (p := ⟨w.heap.size, 1, none⟩) (by show w.heap.size < _; omega) (by show ¬ (w.heap.size = g ∨ w.heap.size = h); omega)]; exact hbx1
  clear H hbx hbx1 hcb
  go_enter Try.func105, Try.ntmps105
  go_wp2
  go_loopw [4] (fun c wr => ∃ k : Nat, k ≤ 16 ∧ c = .int .i64 k ∧ IsFl wr g h cap (F.fill i k s b) ∧ Upd (Two g h) (w.heap.size + 1) (w.alloc (.cells #[.int .i64 s, .string b] 99)) wr) (fun c _ => 16 - (intOf c).toNat)
  case atStart => exact ⟨0, by omega, rfl, by rw [fill_zero]; exact (unhide HH).alloc _, Upd.refl _ _ _⟩
  case round =>
    obtain ⟨k, hk, rfl, hI, hU⟩ := hrel
    obtain ⟨q1, q2, q3⟩ := unhide HX wr hU
    have hfr := hI.frG
    by_cases hlt : k < 16
    · have r1 := hI.st i k hi hlt
      have r2 := hI.bs i k hi hlt
      have HN := hide (hI.put i k hi hlt s b)
      have HU := hide hU
      clear hI hU
      go_wp2
      go_region
      go_wp2
      go_roundw
      case rel => exact ⟨k + 1, by omega, by go_num, by rw [← fill_succ]; exact (unhide HN).drew, (((unhide HU).setCell (Or.inl (Or.inl rfl)) _).setCell (Or.inl (Or.inl rfl)) _).drew⟩
      case measure => simp [intOf]; omega
    · obtain rfl : k = 16 := by omega
      have r1 := hI.wear i hi
      have HN := hide (hI.setWear i hi (wrap64 (F.wear i + 1)))
      have HU := hide hU
      clear hI hU
      go_wp2
      go_end0
      exact ⟨rfl, unhide HN, ((Upd.refl _ _ _).alloc (Nat.le_refl _) _).trans (((unhide HU).less (by omega)).setCell (Or.inl (Or.inl rfl)) _)⟩

end Go.Proofs.Ytiijbklaapaheaa
