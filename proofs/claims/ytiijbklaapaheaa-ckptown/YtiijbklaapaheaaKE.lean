/- Several texts as one. -/
import Derived.Test.YtiijbklaapaheaaCO
import Derived.Test.YtiijbklaapaheaaCE
import Derived.Test.YtiijbklaapaheaaCJ
import Derived.Test.YtiijbklaapaheaaCB

/- Save. -/
namespace Go.Proofs.Ytiijbklaapaheaa
open Go.RowKit
set_option maxRecDepth 100000

/-- Numbers that may be. -/
theorem dec_num (zs : List Int) : 0 ≤ (dec zs).num ∧ (dec zs).num ≤ 1099511627776 := by
  unfold dec
  split
  · exact ⟨by decide, by decide⟩
  split
  · exact ⟨by decide, by decide⟩
  split
  · exact ⟨by decide, by decide⟩
  split
  · exact ⟨by decide, by decide⟩
  · rename_i c
    simp only [Decidable.not_not] at c
    unfold faultE at c
    split at c
    · rename_i k
      exact ⟨Int.le_trans (by decide) k.1, k.2.1⟩
    · cases c
theorem nwk_num (F : Fl) (f m k : Nat) : 0 ≤ (nwk F f m k).ck.num ∧ (nwk F f m k).ck.num ≤ 1099511627776 ∧ (0 ≤ (nwk F f m k).at' ∧ ((nwk F f m k).at' < k ∨ (nwk F f m k).at' = 0)) := by
  induction k with
  | zero => exact ⟨Int.le_refl 0, (by decide : (0 : Int) ≤ 1099511627776), Int.le_refl 0, Or.inr rfl⟩
  | succ k ih =>
    rw [nwk]
    unfold Bst.step
    split
    · exact ⟨(dec_num _).1, (dec_num _).2, by show (0 : Int) ≤ (k : Int); omega, Or.inl (by show (k : Int) < ((k + 1 : Nat) : Int); omega)⟩
    · obtain ⟨h1, h2, h3, h4⟩ := ih
      exact ⟨h1, h2, h3, by rcases h4 with h | h; exact Or.inl (by omega); exact Or.inr h⟩

/-- To which half the next one is put. -/
def toH (c : Bst) : Nat := if 0 < c.ck.num then (1 - c.at').toNat else 0
def savW (F : Fl) (f m : Nat) (c : Bst) (slot last : Int) (ds : List Int) : Int × Fl :=
  if m * 4096 < (ckB (c.ck.num + 1) slot last ds).length then (3, F) else wrtH F (f + toH c * m) m (ckB (c.ck.num + 1) slot last ds)
/-- What Save does. -/
def sav (F : Fl) (f n : Int) (slot last : Int) (ds : List Int) : Int × Fl :=
  if regE F.n f n ≠ 0 then (regE F.n f n, F) else if faultE 1 slot last ds.length ≠ 0 then (faultE 1 slot last ds.length, F) else if F.down = true then (7, F)
  else if (nwk F f.toNat (n.toNat / 2) 2).ck.num = 1099511627776 then (6, F) else savW F f.toNat (n.toNat / 2) (nwk F f.toNat (n.toNat / 2) 2) slot last ds

theorem regE_is {n : Nat} {f b : Int} (h : regE n f b = 0) (hn : n ≤ 1024) : ∃ f' b' : Nat, f = f' ∧ b = b' ∧ 2 ≤ b' ∧ f' + b' ≤ n := by
  unfold regE at h
  split at h
  · cases h
  · rename_i c
    have c1 : ¬ f < 0 := fun e => c (Or.inl e)
    have c2 : ¬ b < 2 := fun e => c (Or.inr (Or.inl e))
    have c3 : ¬ ((n : Int) - f < b) := fun e => c (Or.inr (Or.inr (Or.inr e)))
    exact ⟨f.toNat, b.toNat, by omega, by omega, by omega, by omega⟩

theorem ckB_pos (a b c : Int) (ds : List Int) : 0 < (ckB a b c ds).length := by
  unfold ckB sealB
  rw [List.length_append, lowL_length]; omega
theorem ckB_le (a b c : Int) (ds : List Int) : (ckB a b c ds).length ≤ 53 + ds.length := by
  have h1 := bodyB_le a b c ds
  have h2 := sizeL_le [((bodyB a b c ds).length : Int)]
  unfold ckB sealB
  rw [List.length_append, List.length_append, lowL_length, putL_length]
  simp at h2
  omega
theorem row_of {y : World} {base : Nat} {v : Value} {zs : List Int} (h : y.ownsRow base 5 1 v zs.length (ints .u8 zs)) (h0 : 0 < zs.length) :
    ∃ gb cp, v = .slice (some ⟨gb, 0, none⟩) zs.length cp ∧ base ≤ gb ∧ gb < y.heap.size ∧ zs.length ≤ cp ∧ ∀ t, t < zs.length → y.cell? ⟨gb, t, none⟩ = some (.int .u8 (zs.getD t 0)) := by
  have h' := h
  rcases h.2 with ⟨_, hn⟩ | ⟨gb, cap, cur, rfl, hb, hg, hnc, _⟩
  · omega
  · refine ⟨gb, cap, rfl, hb, (Array.getElem?_eq_some_iff.1 hg).1, hnc, fun t ht => ?_⟩
    have := h'.cells (g := gb) rfl t (.int .u8 (zs.getD t 0)) (by simp [ints, List.getD, ht])
    have hadd : (⟨gb, 0, none⟩ : Addr).add t = ⟨gb, t, none⟩ := by unfold Addr.add; split <;> simp_all
    first | exact this | (rw [hadd] at this; exact this)
theorem ix_any (h f m ti fh : Nat) (ht : ti < 2) (hfh : f + ti * m = fh) (W : World) : Sem.run Try.prog (Instr.index 90 (.agg #[P0 h, .int .i64 f, .int .i64 m, P0 h, .int .i64 (f + m), .int .i64 m]) (.int .i64 ti)) W = .ok (.agg #[P0 h, .int .i64 fh, .int .i64 m]) W := by
  subst hfh
  rcases (show ti = 0 ∨ ti = 1 by omega) with rfl | rfl
  · have := ix0 h f m (f + m) m W
    simpa using this
  · have := ix1 h f m (f + m) m W
    simpa using this

end Go.Proofs.Ytiijbklaapaheaa

/- Load and Half. -/
namespace Go.Proofs.Ytiijbklaapaheaa
open Go.RowKit
set_option maxRecDepth 100000

/-- What Load tells: a checkpoint, whether there is one, an error. -/
def lodB (F : Fl) (f n : Int) : Bst := if regE F.n f n ≠ 0 ∨ F.down = true then .none else nwk F f.toNat (n.toNat / 2) 2
def lodE (F : Fl) (f n : Int) : Int := if regE F.n f n ≠ 0 then regE F.n f n else if F.down = true then 7 else 0

set_option maxHeartbeats 1600000 in
theorem load_ok {w : World} {g h cap : Nat} {F : Fl} (H : IsFl w g h cap F) (hP : ∀ i j, (F.readB i j).length ≤ 256) (f n : Nat) (hfn : f + n ≤ F.n) (hr0 : regE F.n f n = 0) (hdn : F.down = false) :
    Calls Try.prog 27 #[P0 h, .agg #[.int .i64 f, .int .i64 n]] w fun e w' => ∃ dv, e = .returned (.tuple #[.agg #[.int .i64 (nwk F f (n / 2) 2).ck.slot, .int .i64 (nwk F f (n / 2) 2).ck.last, dv], .bool (decide (0 < (nwk F f (n / 2) 2).ck.num)), .int .i64 0]) ∧ w'.ownsRow w.heap.size 5 1 dv (nwk F f (n / 2) 2).ck.data.length (ints .u8 (nwk F f (n / 2) 2).ck.data) ∧ Below w.heap.size w w' := by
  have hle := H.le
  obtain ⟨B, hB⟩ : ∃ B, (w.alloc (.cells #[.int .i64 f, .int .i64 n] 26)).alloc (.cells #[.int .i64 0, .int .i64 0, .slice none 0 0] 24) = B := ⟨_, rfl⟩
  have HBB : Hid (Below w.heap.size w B) := hB ▸ ((Below.refl _ _).alloc (Nat.le_refl _) _).alloc (by simp) _
  have HSZ : Hid (B.heap.size = w.heap.size + 2) := by show _ = _; rw [← hB]; simp
  have HBX : Hid (∀ x, Below B.heap.size B x → (x.cell? ⟨w.heap.size, 0, none⟩ = some (.int .i64 f) ∧ x.cell? ⟨w.heap.size, 1, none⟩ = some (.int .i64 n)) ∧ (x.cell? ⟨w.heap.size + 1, 0, none⟩ = some (.int .i64 0) ∧ x.cell? ⟨w.heap.size + 1, 1, none⟩ = some (.int .i64 0) ∧ x.cell? ⟨w.heap.size + 1, 2, none⟩ = some (.slice none 0 0)) ∧ ∀ o, x.frozen? ⟨w.heap.size + 1, o, none⟩ = false) := fun x hx => by
    have hs := unhide HSZ
    have c : ∀ b o, b < w.heap.size + 2 → x.cell? ⟨b, o, none⟩ = B.cell? ⟨b, o, none⟩ := fun b o hb => hx.cell (p := ⟨b, o, none⟩) (by show b < _; omega)
    have d : ∀ b o, b < w.heap.size + 2 → x.frozen? ⟨b, o, none⟩ = B.frozen? ⟨b, o, none⟩ := fun b o hb => World.frozen?_of_block (w := B) (hx.block b (by omega))
    refine ⟨⟨?_, ?_⟩, ⟨?_, ?_, ?_⟩, fun o => ?_⟩
    · rw [c _ _ (by omega), ← hB]; simp [go_sem, World.cell?_alloc_old]
    · rw [c _ _ (by omega), ← hB]; simp [go_sem, World.cell?_alloc_old]
    · rw [c _ _ (by omega), ← hB]; simp [go_sem]
    · rw [c _ _ (by omega), ← hB]; simp [go_sem]
    · rw [c _ _ (by omega), ← hB]; simp [go_sem]
    · rw [d _ _ (by omega), ← hB]; simp [go_sem]
  obtain ⟨⟨q0, q1⟩, ⟨q2, q3, q4⟩, q5⟩ := unhide HBX B (Below.refl _ _)
  have HI := hide (H.below (unhide HBB))
  clear H
  go_enter Try.func27, Try.ntmps27
  go_wp2_with (rw [hB])
  refine (region_any (unhide HI) f n (by omega)).mono ?_
  rintro e w1 ⟨rfl, b1⟩
  rw [hr0]
  have HB1 := hide b1
  clear b1 q0 q1 q2 q3 q4 q5
  obtain ⟨⟨q0, q1⟩, ⟨q2, q3, q4⟩, q5⟩ := unhide HBX w1 (unhide HB1)
  have HI2 := hide ((unhide HI).below (unhide HB1))
  have HDN := hide (down_any (unhide HI2))
  rw [hdn] at HDN
  have HNW := hide (newest_any (unhide HI2) hP f n (by omega) (by omega))
  go_wp2_with (first | (go_at_call 43; refine (unhide HDN).mono ?_; rintro e w' ⟨rfl, rfl⟩) | fail)
  refine (unhide HNW).mono ?_
  rintro e w3 ⟨nv, rfl, ho3, b3⟩
  have HB3 := hide ((unhide HB1).trans (b3.mono (unhide HB1).size))
  have HO3 := hide ho3
  have hs1 := (unhide HB1).size
  have hsz := unhide HSZ
  clear q0 q1 q2 q3 q4 q5
  obtain ⟨⟨q0, q1⟩, ⟨q2, q3, q4⟩, q5⟩ := unhide HBX w3 (unhide HB3)
  obtain ⟨na, nc, rfl⟩ := own_shape ho3
  have hl3 : w.heap.size + 1 < w3.heap.size := by have := b3.size; omega
  clear b3 ho3
  generalize hgc : nwk F f (n / 2) 2 = c at HO3 ⊢
  have HBW := hide ((unhide HBB).trans ((unhide HB3).mono (unhide HBB).size))
  go_wp2
  obtain ⟨k0, k1, k2⟩ := st3_cells (v0 := .int .i64 c.ck.slot) (v1 := .int .i64 c.ck.last) (v2 := .slice na c.ck.data.length nc) q2 q3 q4
  have hbl := st3_below (unhide HBW) (show w.heap.size ≤ w.heap.size + 1 by omega) (.int .i64 c.ck.slot) (.int .i64 c.ck.last) (.slice na c.ck.data.length nc)
  have hor := own_set (own_set (own_set (unhide HO3) (p := ⟨w.heap.size + 1, 0, none⟩) (by show w.heap.size + 1 < _; omega) (.int .i64 c.ck.slot)) (p := ⟨w.heap.size + 1, 1, none⟩) (by show w.heap.size + 1 < _; omega) (.int .i64 c.ck.last)) (p := ⟨w.heap.size + 1, 2, none⟩) (by show w.heap.size + 1 < _; omega) (.slice na c.ck.data.length nc)
  have hysz : (((w3.setCell ⟨w.heap.size + 1, 0, none⟩ (.int .i64 c.ck.slot)).setCell ⟨w.heap.size + 1, 1, none⟩ (.int .i64 c.ck.last)).setCell ⟨w.heap.size + 1, 2, none⟩ (.slice na c.ck.data.length nc)).heap.size = w3.heap.size := by simp [World.setCell]
  generalize ((w3.setCell ⟨w.heap.size + 1, 0, none⟩ (.int .i64 c.ck.slot)).setCell ⟨w.heap.size + 1, 1, none⟩ (.int .i64 c.ck.last)).setCell ⟨w.heap.size + 1, 2, none⟩ (.slice na c.ck.data.length nc) = Y at *
  have ne : ∀ o, (⟨w.heap.size + 1, o, none⟩ : Addr).block ≠ Y.heap.size := fun o => by show w.heap.size + 1 ≠ _; omega
  have m0 := (World.cell?_alloc_old Y (.cells #[.int .i64 c.at', .int .i64 c.ck.num, .int .i64 c.ck.slot, .int .i64 c.ck.last, .slice na c.ck.data.length nc] 87) ⟨w.heap.size + 1, 0, none⟩ (ne 0)).trans k0
  have m1 := (World.cell?_alloc_old Y (.cells #[.int .i64 c.at', .int .i64 c.ck.num, .int .i64 c.ck.slot, .int .i64 c.ck.last, .slice na c.ck.data.length nc] 87) ⟨w.heap.size + 1, 1, none⟩ (ne 1)).trans k1
  have m2 := (World.cell?_alloc_old Y (.cells #[.int .i64 c.at', .int .i64 c.ck.num, .int .i64 c.ck.slot, .int .i64 c.ck.last, .slice na c.ck.data.length nc] 87) ⟨w.heap.size + 1, 2, none⟩ (ne 2)).trans k2
  refine bodyPost_ret (v := .tuple #[.agg #[.int .i64 c.ck.slot, .int .i64 c.ck.last, .slice na c.ck.data.length nc], .bool (decide (0 < c.ck.num)), .int .i64 0]) (by simp [results, Try.results27, go_sem, m0, m1, m2]) rfl ?_
  rw [hgc]
  exact ⟨_, rfl, own_lower (b := w1.heap.size) (hor.alloc _) (by omega), hbl.alloc (by have := hbl.size; omega) _⟩

set_option maxHeartbeats 1600000 in
theorem half_ok {w : World} {g h cap : Nat} {F : Fl} (H : IsFl w g h cap F) (hP : ∀ i j, (F.readB i j).length ≤ 256) (f n : Nat) (hfn : f + n ≤ F.n) (hr0 : regE F.n f n = 0) :
    Calls Try.prog 40 #[P0 h, .agg #[.int .i64 f, .int .i64 n]] w fun e w' => e = .returned (.tuple #[.int .i64 (nwk F f (n / 2) 2).at', .int .i64 (nwk F f (n / 2) 2).ck.num, .bool (decide (0 < (nwk F f (n / 2) 2).ck.num))]) ∧ Below w.heap.size w w' := by
  have hle := H.le
  obtain ⟨B, hB⟩ : ∃ B, w.alloc (.cells #[.int .i64 f, .int .i64 n] 26) = B := ⟨_, rfl⟩
  have HBB : Hid (Below w.heap.size w B) := hB ▸ (Below.refl _ _).alloc (Nat.le_refl _) _
  have HSZ : Hid (B.heap.size = w.heap.size + 1) := by show _ = _; rw [← hB]; simp
  have HBX : Hid (∀ x, Below B.heap.size B x → x.cell? ⟨w.heap.size, 0, none⟩ = some (.int .i64 f) ∧ x.cell? ⟨w.heap.size, 1, none⟩ = some (.int .i64 n)) := fun x hx => cells2 (by rw [hB, ← unhide HSZ]; exact hx)
  obtain ⟨q0, q1⟩ := unhide HBX B (Below.refl _ _)
  have HI := hide (H.below (unhide HBB))
  clear H
  go_enter Try.func40, Try.ntmps40
  go_wp2_with (rw [hB])
  refine (region_any (unhide HI) f n (by omega)).mono ?_
  rintro e w1 ⟨rfl, b1⟩
  rw [hr0]
  have HB1 := hide b1
  clear b1 q0 q1
  obtain ⟨q0, q1⟩ := unhide HBX w1 (unhide HB1)
  have HNW := hide (newest_any ((unhide HI).below (unhide HB1)) hP f n (by omega) (by omega))
  go_wp2_with fail
  refine (unhide HNW).mono ?_
  rintro e w3 ⟨nv, rfl, ho3, b3⟩
  have HB3 := hide (((unhide HBB).trans ((unhide HB1).mono (unhide HBB).size)).trans (b3.mono ((unhide HBB).trans ((unhide HB1).mono (unhide HBB).size)).size))
  obtain ⟨na, nc, rfl⟩ := own_shape ho3
  clear b3 ho3 q0 q1
  generalize hgc : nwk F f (n / 2) 2 = c at *
  go_wp2
  go_region
  go_wp2
  refine bodyPost_ret (v := .tuple #[.int .i64 c.at', .int .i64 c.ck.num, .bool (decide (0 < c.ck.num))]) (by simp [results, Try.results40, go_sem]) rfl ?_
  rw [hgc]
  exact ⟨rfl, ((unhide HB3).alloc (unhide HB3).size _).drew⟩

end Go.Proofs.Ytiijbklaapaheaa

/- No page shows more than 256 bytes, whatever is done. -/
namespace Go.Proofs.Ytiijbklaapaheaa
open Go.RowKit

def Sm (F : Fl) : Prop := ∀ i j, (F.bs i j).size ≤ 256
theorem Sm.hP {F : Fl} (h : Sm F) (i j : Int) : (F.readB i j).length ≤ 256 := by
  unfold Fl.readB
  split
  · rw [bytesOf_length]; exact h _ _
  · exact Nat.zero_le _
theorem sm_blank (n : Nat) : Sm (Fl.blank n) := fun _ _ => Nat.zero_le _
theorem Sm.put {F : Fl} (h : Sm F) (i j : Nat) (s : Int) (b : ByteArray) (hb : b.size ≤ 256) : Sm (F.put i j s b) := by
  intro a c
  show (if a = i ∧ c = j then b else F.bs a c).size ≤ 256
  split
  · exact hb
  · exact h a c
theorem Sm.fill {F : Fl} (h : Sm F) (i k : Nat) (s : Int) (b : ByteArray) (hb : b.size ≤ 256) : Sm (F.fill i k s b) := by
  intro a c
  unfold Fl.fill
  show (if _ then b else F.bs a c).size ≤ 256
  split
  · exact hb
  · exact h a c
theorem Sm.burnt {F : Fl} (h : Sm F) : Sm F.burnt := by unfold Fl.burnt; split <;> exact h
theorem Sm.changed {F : Fl} (h : Sm F) {act : Fl → Int → ByteArray → Fl} (ha : ∀ G s b, Sm G → b.size ≤ 256 → Sm (act G s b)) (s : Int) (b : ByteArray) (hb : b.size ≤ 256) : Sm (F.changed act s b) := by
  unfold Fl.changed
  split
  · show Sm (Fl.fall _)
    split
    · exact ha _ _ _ h.burnt hb
    · split
      · exact ha _ _ _ h.burnt (Nat.zero_le _)
      · exact h.burnt
  · exact ha _ _ _ h.burnt hb
theorem strOf_size (l : List Int) : (strOf l).size = l.length := by unfold strOf; simp [ByteArray.size]
theorem pageL_len {zs : List Int} (h : zs.length ≤ 256) : (pageL zs).length = 256 := by unfold pageL; simp; omega
theorem Sm.prog {F : Fl} (h : Sm F) (i j : Int) (zs : List Int) : Sm (F.prog i j zs).2 := by
  unfold Fl.prog
  split
  · exact h
  split
  · exact h
  split
  · exact h
  split
  · exact h
  · rename_i hl _
    exact h.changed (fun G s b hG hb => hG.put _ _ s b hb) _ _ (by rw [strOf_size, pageL_len (by omega)]; exact Nat.le_refl _)
theorem Sm.erase {F : Fl} (h : Sm F) (i : Int) : Sm (F.erase i).2 := by
  unfold Fl.erase
  split
  · exact h
  split
  · exact h
  · exact h.changed (fun G s b hG hb => by show Sm (Fl.setWear _ _ _); exact hG.fill _ _ s b hb) _ _ (Nat.zero_le _)
theorem Sm.clr (k : Nat) : ∀ {F : Fl} (_ : Sm F) (b : Nat), Sm (clr F b k).2 := by
  induction k with
  | zero => intro F h b; exact h
  | succ k ih =>
    intro F h b
    rw [clr_succ]
    split
    · exact ih h _
    · split
      · exact h.erase _
      · exact ih (h.erase _) _
theorem Sm.wrt (cs : List (List Int)) : ∀ {F : Fl} (_ : Sm F) (f i : Nat), Sm (wrt F f i cs).2 := by
  induction cs with
  | nil => intro F h f i; exact h
  | cons c cs ih =>
    intro F h f i
    rw [wrt_cons]
    split
    · exact h.prog _ _ _
    · exact ih (h.prog _ _ _) _ _
theorem Sm.wrtH {F : Fl} (h : Sm F) (f n : Nat) (zs : List Int) : Sm (wrtH F f n zs).2 := by
  unfold Proofs.Ytiijbklaapaheaa.wrtH
  split
  · exact Sm.clr n h f
  · exact Sm.wrt _ (Sm.clr n h f) _ _
theorem Sm.sav {F : Fl} (h : Sm F) (f n slot last : Int) (ds : List Int) : Sm (sav F f n slot last ds).2 := by
  unfold Proofs.Ytiijbklaapaheaa.sav savW
  (repeat' split) <;> first | exact h | exact h.wrtH _ _ _
theorem wrt_cnt (cs : List (List Int)) : ∀ (F : Fl) (f i : Nat), 0 ≤ F.cnt → F.cnt ≤ 9223372036854775807 → 0 ≤ (wrt F f i cs).2.cnt ∧ (wrt F f i cs).2.cnt ≤ 9223372036854775807 := by
  induction cs with
  | nil => intro F f i h0 h1; exact ⟨h0, h1⟩
  | cons c cs ih =>
    intro F f i h0 h1
    have hp := prog_cnt F ((f + i / 16 : Nat) : Int) ((i % 16 : Nat) : Int) c h0 h1
    rw [wrt_cons]
    split
    · exact hp
    · exact ih _ _ _ hp.1 hp.2
theorem sav_cnt (F : Fl) (f n slot last : Int) (ds : List Int) (h0 : 0 ≤ F.cnt) (h1 : F.cnt ≤ 9223372036854775807) : 0 ≤ (sav F f n slot last ds).2.cnt ∧ (sav F f n slot last ds).2.cnt ≤ 9223372036854775807 := by
  unfold sav savW wrtH
  have hc := fun b k => clr_cnt k F b h0 h1
  (repeat' split) <;> first | exact ⟨h0, h1⟩ | exact ⟨(hc _ _).1, (hc _ _).2.1⟩ | exact wrt_cnt _ _ _ _ (hc _ _).1 (hc _ _).2.1

end Go.Proofs.Ytiijbklaapaheaa
